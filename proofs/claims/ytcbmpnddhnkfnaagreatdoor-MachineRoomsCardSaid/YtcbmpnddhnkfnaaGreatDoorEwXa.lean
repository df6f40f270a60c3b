/- Part of an evaluator of calls that is proved sound, and of what it gives about this program. No condition of its own. -/
import Derived.Test.YtcbmpnddhnkfnaaGreatDoorEwUi
set_option linter.unusedVariables false
set_option linter.unusedSimpArgs false
set_option linter.unusedSectionVars false
set_option maxRecDepth 100000
set_option maxHeartbeats 4000000
namespace Go.Ev
open Go.Proofs
def Ap (H : AH) (r : AV) (l : List Int) : Prop :=
 (r = .v (.slice none 0 0) ∧ l = []) ∨ (∃ b, r = .slc b 0 0 0 ∧ l = [] ∧ b < H.next ∧ b < 2 ^ 39 ∧ H.get b = some (.cells [] 3 0)) ∨ (∃ b, r = .slu b 0 l.length 1 ∧ b < H.next ∧ b < 2 ^ 39 ∧ H.get b = some (.cells (ivs l) 3 1))
theorem Ap.ky {H : AH} {r : AV} {l : List Int} (h : Ap H r l) : Ky H r l := by
 rcases h with ⟨rfl, rfl⟩ | ⟨b, rfl, rfl, h1, h2, h3⟩ | ⟨b, rfl, h1, h2, h3⟩
 · exact ⟨⟨rfl, .inl rfl⟩, Old.v _, Nat.le_refl _, fun b hb => by cases hb⟩
 · refine ⟨⟨rfl, h2, _, _, _, h3, fun j v hv => by simp [ivs] at hv⟩, fun d hd => by cases hd; exact h1, Nat.le_refl _, fun d hd => ?_⟩
   cases hd
   exact ⟨h1, by rw [h3]; simp [sameBlk, beqs]⟩
 · refine ⟨⟨(ivs_length l).symm, h2, rfl, _, _, _, h3, fun j v hv => by rw [Nat.zero_add]; exact hv⟩, fun d hd => by cases hd; exact h1, trivial, fun d hd => ?_⟩
   cases hd
   exact ⟨h1, by rw [h3]; simp [sameBlk, beqs_ivs]⟩
theorem Ap.keep {H H' : AH} {r : AV} {l : List Int} (h : Ap H r l) (k : Keeps H H') : Ap H' r l := by
 rcases h with h | ⟨b, h0, h1, h2, h3, h4⟩ | ⟨b, h0, h2, h3, h4⟩
 · exact .inl h
 · exact .inr (.inl ⟨b, h0, h1, Nat.lt_of_lt_of_le h2 k.nx, h3, (k.get b h2).trans h4⟩)
 · exact .inr (.inr ⟨b, h0, Nat.lt_of_lt_of_le h2 k.nx, h3, (k.get b h2).trans h4⟩)
theorem ivs_snoc (l : List Int) (z : Int) : ivs (l ++ [z]) = ivs l ++ [iv z] := by simp [ivs]
section
variable {O : CallF} {T : List AV} {H H0 : AH} {ops : Array Oper} {o : Oper} {i : Nat} {π : List Stp}
theorem o_append1A {K : AV → AH → Prop} {c : Call} {t xt e' : TypeId} {s x : Operand} {l : List Int} {z : Int} {bx : Nat} {ex : TypeId} {gx : Nat} (ho : o.op = .call c) (hg : wantedA o ops T = true) (hc : c.callee = .builtin .append) (hargs : c.args.toList = [s, x]) (ht : c.argTypes.toList = [t, xt]) [hu : TyS t 3] [hux : TyS xt e']
   (hlen : l.length < 2 ^ 20) (hr : H.next < 2 ^ 39) (hx : av T x = .slc bx 0 1 1) (hbx : H.get bx = some (.cells [iv z] ex gx)) (hA : Ap H (av T s) l) (hn : ∀ b, (av T s).own = some b → H0.next ≤ b) (k0 : Keeps H0 H)
   (hk : ∀ r H1, Ap H1 r (l ++ [z]) → (∀ b, r.own = some b → H.next ≤ b) → Keeps H0 H1 → H1.next = H.next + 1 → (∀ b, b ≠ H.next → (av T s).own ≠ some b → H1.get b = H.get b) → K r H1) : WOp (ENV O) ops o T H K := by
 have hGr : Gr H 3 (av T s) (ivs l) → WOp (ENV O) ops o T H K := fun hG => by
   refine o_append (cs := ivs l) (v := iv z) ho hg hc hargs ht (by rw [ivs_length]; omega) hr hx hbx rfl hG fun r H1 e1 n1 gl1 g1 g2 _ => ?_
   rw [ivs_length] at e1
   refine hk r H1 (.inr (.inr ⟨H.next, ?_, by omega, hr, ?_⟩)) (fun b hb => ?_) ⟨by have := k0.nx; omega, gl1.trans k0.gl, fun b hb => ?_⟩ n1 g1
   · rw [e1, List.length_append]; rfl
   · rw [g2, ivs_snoc]
   · rw [e1] at hb; cases hb; exact Nat.le_refl _
   · rw [g1 b (by have := k0.nx; omega) (fun e => by have := hn b e; omega)]; exact k0.get b hb
 rcases hA with ⟨h1, h2⟩ | ⟨b, h0, h1, h2, h3, h4⟩ | ⟨b, h0, h2, h3, h4⟩
 · exact hGr (.inl ⟨h1, by rw [h2]; rfl⟩)
 · subst h1
   have hz : Zero 3 (.int .i64 0) := inferInstance
   have hs : Cell 3 := inferInstance
   refine wop_appendE (n := 1) (new := [iv z]) ho hg hc hargs (arg0 ht) (arg1 ht) hu.u hux.u hz.i hs.s hz.z (by rw [hz.c]; rfl) (Nat.le_of_ble_eq_true hz.b) (by decide) hr h0 h4 (by rw [hx]; rfl) (by rw [hx]; unfold firstA; simp only [hbx]; rfl) rfl rfl (fun e => by cases e) (fun _ => ?_)
   refine hk _ _ (.inr (.inr ⟨H.next, rfl, Nat.lt_succ_self _, hr, get_add_eq hr⟩)) (fun d hd => by cases hd; exact Nat.le_refl _) (k0.add _ hr) rfl fun d hd _ => get_add_ne hr hd
 · exact hGr (.inr ⟨b, h2, h3, by rw [ivs_length]; exact h0, h4⟩)
theorem o_appendA {K : AV → AH → Prop} {c : Call} {t xt e' : TypeId} {s x : Operand} {y : Value} {l : List Int} {b : Nat} (ho : o.op = .call c) (hg : wantedA o ops T = true) (hc : c.callee = .builtin .append) (hargs : c.args.toList = [s, x]) (ht : c.argTypes.toList = [t, xt]) [hu : TyS t 3] [hux : TyS xt e']
   (hlen : l.length ≤ 2 ^ 30) (hr : H.next < 2 ^ 39) (hsx : av T s = .slc b 0 0 0) (hbn : b < H.next) (hgb : H.get b = some (.cells [] 3 0)) (hx : av T x = .v y) (hy : Sl H (.v y) (ivs l)) (hb0 : H0.next ≤ b) (hk0 : Keeps H0 H)
   (hk : ∀ a H4, Ap H4 a l → (∀ d, a.own = some d → H0.next ≤ d) → Keeps H0 H4 → H4.next ≤ H.next + 1 → H.next ≤ H4.next → K a H4) : WOp (ENV O) ops o T H K := by
 obtain ⟨f1, f2⟩ := first_sl hy
 rw [ivs_length] at f1 f2
 have hz : Zero 3 (.int .i64 0) := inferInstance
 have hs : Cell 3 := inferInstance
 have hb39 : b < 2 ^ 39 := by omega
 refine wop_appendE ho hg hc hargs (arg0 ht) (arg1 ht) hu.u hux.u hz.i hs.s hz.z (by rw [hz.c]; rfl) (Nat.le_of_ble_eq_true hz.b) hlen hr hsx hgb (by rw [hx]; exact f1) (by rw [hx]; exact f2) (ivs_one l) (ivs_length l) (fun h0 => ?_) (fun h0 => ?_)
 · have e : l = [] := List.eq_nil_of_length_eq_zero h0
   subst e
   exact hk _ _ (.inr (.inl ⟨b, rfl, rfl, hbn, hb39, get_set_eq hb39⟩)) (fun d hd => by cases hd; exact hb0) (hk0.set _ hb0 hb39) (Nat.le_succ _) (Nat.le_refl _)
 · exact hk _ _ (.inr (.inr ⟨H.next, rfl, Nat.lt_succ_self _, hr, get_add_eq hr⟩)) (fun d hd => by cases hd; have := hk0.nx; omega) (hk0.add _ hr) (Nat.le_refl _) (Nat.le_succ _)
theorem k_build1 {K : List AV → AH → Prop} {t e : TypeId} {x : Operand} {z0 : Value} (h1 : ops.toList[i]? = some o) (ho : o.op = .buildSlice t 1 #[(0, x)]) (hg : wantedA o ops T = true) [hu : TyS t e] [hs : Cell e] [hz : Zero e z0] (hx : (av T x).one = true) (hr : H.next < 2 ^ 39)
   (hk : WK (ENV O) ops H0 π (putA T o.dst (.slc H.next 0 1 1)) (H.add (.cells [av T x] e 0)) K) : WK (ENV O) ops H0 (.alc i :: π) T H K := by
 have hlt : Nat.blt H.next (2 ^ 39) = true := Nat.ble_eq_true_of_le hr
 refine ⟨o, h1, .inr ⟨hg, some (1, 1), [av T x], e, H.add (.cells [av T x] e 0), ?_, ?_, hk⟩⟩
 · unfold laysA; rw [ho]
   simp only [ENV, hu.u, hs.s, hz.z, hz.c]
   rw [if_pos (by decide)]
   simp [fillA, cells_one hx, wr]
 · simp only [newA, hlt, if_true]
theorem k_alcSkip {K : List AV → AH → Prop} (h1 : ops.toList[i]? = some o) (hg : wantedA o ops T = false) (hk : WK (ENV O) ops H0 π (putA T o.dst (.v undef)) H K) : WK (ENV O) ops H0 (.alc i :: π) T H K := ⟨o, h1, .inl ⟨hg, hk⟩⟩
theorem WK.mem {K : List AV → AH → Prop} (P : AH → Prop) (h : P H) (hw : ∀ H, P H → WK (ENV O) ops H0 π T H K) : WK (ENV O) ops H0 π T H K := hw H h
theorem o_nilEq {K : AV → AH → Prop} {t yt : TypeId} {x : Operand} {a : Option Addr} {n cap : Nat} (ho : o.op = .binOp .eql t x (.const (.slice none 0 0)) yt) (hg : wantedA o ops T = true) (ht : t = 22) (hx : av T x = .v (.slice a n cap)) (hk : K (.v (.bool a.isNone)) H) : WOp (ENV O) ops o T H K := by
 subst ht
 refine wop_val (by rw [ho]; rfl) hg (r := .v (.bool a.isNone)) ?_ (Nat.le_refl _) hk
 unfold opEval; rw [ho]
 have hc : av T (.const (.slice none 0 0)) = .v (.slice none 0 0) := rfl
 have h0 : nilEqA Tryz.prog 22 (.v (.slice a n cap)) (.v (.slice none 0 0)) = false := by rfl
 simp only [ENV, oBin, oBinSlow, hx, hc, h0]
 unfold plainOp
 have h2 : runPure Tryz.prog (execOp (fun x => ((av T x).plain).getD undef) o) = some (.value (.bool a.isNone)) := by
   obtain ⟨dst, op', type, pos, after, guard⟩ := o
   simp only at ho
   subst ho
   cases a with
   | none => simp only [execOp, eqGuard, hx, hc, AV.plain, Option.getD_some]; kernel_rfl
   | some a => simp only [execOp, eqGuard, hx, hc, AV.plain, Option.getD_some]; kernel_rfl
 rw [h2, ho]
 simp [Op.operands, hx, hc, AV.plain]
end
theorem nodup_len {N : Nat} {l : List Int} (h : InR N l) (hd : l.Nodup) : l.length ≤ N := by
 have h1 : (l.map Int.toNat).Nodup := by
   rw [List.nodup_iff_pairwise_ne, List.pairwise_map]
   refine (List.nodup_iff_pairwise_ne.1 hd).imp_of_mem fun ha hb hne e => hne ?_
   have := h _ ha; have := h _ hb; omega
 have h2 : (l.map Int.toNat) ⊆ List.range N := fun y hy => by
   obtain ⟨z, hz, rfl⟩ := List.mem_map.1 hy
   have := h z hz
   exact List.mem_range.2 (by omega)
 have := h1.length_le_of_subset h2
 simpa using this
open Classical in
noncomputable def freeL (m : Mc) (n : Nat) (l : List Int) (i : Nat) : List Int := ((List.range i).filter fun (k : Nat) => decide ((k : Int) ∉ l ∧ never m (l ++ [(k : Int)]) n)).map fun (k : Nat) => (k : Int)
open Classical in
theorem freeL_succ (m : Mc) (n : Nat) (l : List Int) (i : Nat) : freeL m n l (i + 1) = freeL m n l i ++ if (i : Int) ∉ l ∧ never m (l ++ [(i : Int)]) n then [(i : Int)] else [] := by
 unfold freeL
 rw [List.range_succ, List.filter_append, List.map_append]
 congr 1
 by_cases h : (i : Int) ∉ l ∧ never m (l ++ [(i : Int)]) n
 · rw [if_pos h, List.filter_cons_of_pos (by simpa using h)]; rfl
 · rw [if_neg h, List.filter_cons_of_neg (by simpa using h)]; rfl
theorem freeL_len (m : Mc) (n : Nat) (l : List Int) (i : Nat) : (freeL m n l i).length ≤ i := by
 unfold freeL
 rw [List.length_map]
 exact Nat.le_trans (List.length_filter_le _ _) (by simp)
theorem Vld.sub {m : Mc} {l l' : List Int} {n : Nat} (h : Vld m l n) (hr : InR (4 * n) l') (hd : l'.Nodup) : Vld m l' n :=
 { h with hle := nodup_len hr hd, hl := hr, hd := hd }
theorem Vld.snoc {m : Mc} {l : List Int} {n : Nat} {s : Int} (h : Vld m l n) (hs : 0 ≤ s ∧ s < ((4 * n : Nat) : Int)) (hn : s ∉ l) : Vld m (l ++ [s]) n := by
 refine h.sub (fun z hz => ?_) ?_
 · rcases List.mem_append.1 hz with hz | hz
   · exact h.hl z hz
   · rw [List.mem_singleton.1 hz]; exact hs
 · rw [List.nodup_append]
   exact ⟨h.hd, by simp, fun a ha b hb e => hn (by rw [List.mem_singleton.1 hb] at e; rw [← e]; exact ha)⟩
theorem bndF {a b c i : Nat} (h1 : a ≤ b + 900000) (h2 : b ≤ c + 1000000 + i * 1000000) : a ≤ c + 1000000 + (i + 1) * 1000000 := by omega
variable {O : CallF} (hq : Quiet O)
include hq
theorem cClone (H : AH) (y : Value) (l : List Int) (hy : Sl H (.v y) (ivs l)) (hl : l.length ≤ 1000) (hr : H.next + 10 < 2 ^ 39)
   (K : AV → AH → Prop) (hk : ∀ H' r, Keeps H H' → H'.next ≤ H.next + 2 → Ap H' r l → (∀ b, r.own = some b → H.next ≤ b) → K r H') : Ca (ENV O) 92 [.v y] H K := by
 refine ca_intro (hq _ _ _ rfl) (fn := Tryz.f92) (by rfl) rfl ?_
 obtain ⟨a, n, c, rfl⟩ : ∃ a n c, y = .slice a n c := by
   cases y with
   | slice a n c => exact ⟨a, n, c, rfl⟩
   | _ => exact hy.elim
 repeat (first | apply qN | refine qM rfl rfl ?_ | apply qR | apply qS)
 refine wops_cons (o_nilEq rfl rfl rfl rfl ?_)
 repeat (first | apply qN)
 cases a with
 | none =>
   have hl0 : l = [] := by
     rcases hy.2 with h | ⟨b, off, vs, h, _⟩
     · cases l with
       | nil => rfl
       | cons z l => simp [ivs] at h
     · cases h
   repeat (first | apply qN | refine qM rfl rfl ?_ | refine qT rfl ?_ | apply qR | apply qS)
   refine wp_ret ?_
   exact ⟨_, _, rfl, hk H _ (Keeps.refl H) (by omega) (.inl ⟨rfl, hl0⟩) (fun b hb => by cases hb)⟩
 | some a =>
   repeat (first | refine qF rfl ?_ | apply qR | apply qS | apply qK)
   have r0 : H.next < 2 ^ 39 := by omega
   refine wops_cons (o_build0 rfl rfl r0 ?_)
   have k1 := (Keeps.refl H).add (.cells [] 3 0) r0
   have g1 : (H.add (.cells [] 3 0)).get H.next = some (.cells [] 3 0) := get_add_eq r0
   have n1 : (H.add (.cells [] 3 0)).next = H.next + 1 := rfl
   generalize H.add (.cells [] 3 0) = H1 at k1 g1 n1 ⊢
   repeat (first | refine qM rfl rfl ?_)
   refine wops_cons (o_appendA (H0 := H) (l := l) rfl rfl rfl rfl rfl (by omega) (by omega) rfl (by omega) g1 rfl (hy.keep (Old.v _) k1) (Nat.le_refl _) k1 fun r H2 hA hn k2 n2 _ => ?_)
   repeat (first | apply qN | refine qM rfl rfl ?_)
   refine wp_ret ?_
   exact ⟨_, _, rfl, hk H2 r k2 (by omega) hA hn⟩
theorem cFreeV (H : AH) (a x : AV) (yv : Value) (m : Mc) (l : List Int) (n : Nat) (ha : a.cells = mc m x) (hx : Sl H x (ivs m.sw)) (ho : Old H x) (hy : Sl H (.v yv) (ivs l)) (hcap : CapOk (.v yv)) (h6 : Vld m l n) (hl10 : l.length ≤ 67) (hnev : never m l n) (hr : H.next + 200000000 < 2 ^ 39)
   (K : AV → AH → Prop) (hk : ∀ H' r fr, Keeps H H' → H'.next ≤ H.next + 100000000 → Gr H' 3 r (ivs fr) → fr = freeL m n l (4 * n) → K (.tup [r, iv 0]) H') : Ca (ENV O) 39 [a, .v yv] H K := by
 refine ca_intro (hq _ _ _ rfl) (fn := Tryz.f39) (by rfl) rfl ?_
 have hg := h6.hg
 have hn6 := h6.hn
 have hsw := h6.hsw
 have hoy : Old H (.v yv) := Old.v _
 have hky : Ky H (.v yv) l := ⟨hy, hoy, hcap, fun b hb => by cases hb⟩
 repeat (first | apply qR | apply qS)
 refine wops_cons (o_boxM rfl rfl ha (by omega) fun H1 n1 k1 b1 => ?_)
 repeat (first | apply qN | refine qM rfl rfl ?_ | refine zqb rfl rfl rfl ‹_› ?_ | apply qR | apply qS)
 refine wops_cons (wop_callF rfl rfl rfl (fn := Tryz.f35) (by rfl) ?_)
 have hy1 := hky.keep k1
 refine c35 hq H1 _ x (.v yv) m l n _ rfl (hx.keep ho k1) (ho.keep k1) hy1.sl hy1.old hy1.cap hy1.lk h6.good (by omega) _ (fun H2 k p k2 n2 f1 => (mtF_not f1 (hnev _)).elim) (fun H2 k2 n2 f1 => ⟨k2.nx, ?_⟩)
 have k02 := k1.trans k2
 have b2 := b1.keep (by omega) k2
 have hp1 := b2.p1
 rw [hg] at hp1
 repeat (first | apply qN | refine qM rfl rfl ?_ | apply qR | apply qS)
 refine wops_cons (wop_bin (op := .neq) (v := .bool false) rfl rfl rfl rfl rfl ?_)
 repeat (first | apply qN | refine qM rfl rfl ?_ | refine zqa rfl rfl rfl ?_ | refine zq6 rfl rfl ‹_› ?_ | refine qF rfl ?_ | apply qR | apply qS | apply qK)
 refine wops_cons (wop_bin (op := .mul) (v := .int .i64 ((4 * n : Nat) : Int)) rfl rfl rfl rfl ?_ ?_)
 · rw [mul4 (by omega)]; congr 2
 clear hp1
 repeat (first | apply qN | refine qM rfl rfl ?_ | apply qB)
 refine wp_loop (fun q T M H' => ∃ (i : Nat) (Y : List AV) (r : AV) (fr : List Int), q = 4 * n - i ∧ i ≤ 4 * n ∧ Keeps H H' ∧ H.next < H'.next ∧ H'.next ≤ H.next + 1000000 + i * 1000000 ∧ Bx H' H.next 24 m x ∧ Gr H' 3 r (ivs fr) ∧ (∀ b, r.own = some b → H.next < b) ∧ fr = freeL m n l i ∧ M = [] ∧ T = (lget Y 0 :: .v yv :: .ptr H.next 0 :: lget Y 1 :: lget Y 2 :: lget Y 3 :: lget Y 4 :: r :: lget Y 5 :: lget Y 6 :: lget Y 7 :: lget Y 8 :: lget Y 9 :: lget Y 10 :: lget Y 11 :: lget Y 12 :: lget Y 13 :: iv (4 * n : Nat) :: iv (i : Nat) :: lget Y 14 :: lget Y 15 :: lget Y 16 :: lget Y 17 :: lget Y 18 :: lget Y 19 :: lget Y 20 :: lget Y 21 :: lget Y 22 :: lget Y 23 :: lget Y 24 :: lget Y 25 :: lget Y 26 :: lget Y 27 :: lget Y 28 :: lget Y 29 :: lget Y 30 :: lget Y 31 :: lget Y 32 :: lget Y 33 :: lget Y 34 :: [])) (4 * n)
   ⟨0, [_,_,_,_,_,_,_,_,_,_,_,_,_,_,_,_,_,_,_,_,_,_,_,_,_,_,_,_,_,_,_,_,_,_,_], .v (.slice none 0 0), [], rfl, Nat.zero_le _, k02, by have := k2.nx; omega, by omega, b2, .inl ⟨rfl, rfl⟩, (fun b hb => by cases hb), rfl, rfl, rfl⟩ ?_
 rintro q T M H4 ⟨i, Y, r, fr, hq1, hi, k4, h4n, n4, b4, hG, hro, hfr, rfl, rfl⟩
 have hy4 := hky.keep k4
 have hB4 : ∀ b, (AV.ptr H.next 0).own = some b → Lk H4 b := b4.lk h4n (hx.keep ho k4)
 repeat (first | apply qR | apply qS)
 refine wops_cons (wop_cmp rfl rfl rfl rfl rfl (fun h => ?_) (fun h => ?_))
 rotate_left
 · have h : ¬ ((i : Int) < (4 * n : Nat)) := of_decide_eq_false h
   repeat (first | apply qN | refine qM rfl rfl ?_ | refine qF rfl ?_ | apply qR | apply qS | apply qE)
   refine wp_ret ?_
   exact ⟨_, _, rfl, hk H4 r fr k4 (by omega) hG (by rw [hfr, show i = 4 * n by omega])⟩
 have h : (i : Int) < (4 * n : Nat) := of_decide_eq_true h
 have hsb : 0 ≤ (i : Int) ∧ (i : Int) < ((4 * n : Nat) : Int) := ⟨by omega, h⟩
 clear h
 repeat (first | apply qN | refine qM rfl rfl ?_ | refine qT rfl ?_ | apply qR | apply qS | apply qK | apply qB)
 refine Wp.mono (Q := fun x' T' M' H' => x' = .normal ∧ M' = [] ∧ Keeps H4 H' ∧ H'.next ≤ H4.next + 900000 ∧ ∃ (Y : List AV) (c : Bool), T' = (lget Y 0 :: .v yv :: .ptr H.next 0 :: lget Y 1 :: lget Y 2 :: lget Y 3 :: lget Y 4 :: r :: iv (i : Nat) :: lget Y 5 :: lget Y 6 :: lget Y 7 :: lget Y 8 :: lget Y 9 :: lget Y 10 :: lget Y 11 :: lget Y 12 :: iv (4 * n : Nat) :: iv (i : Nat) :: lget Y 13 :: lget Y 14 :: lget Y 15 :: lget Y 16 :: lget Y 17 :: lget Y 18 :: lget Y 19 :: lget Y 20 :: lget Y 21 :: lget Y 22 :: lget Y 23 :: lget Y 24 :: lget Y 25 :: lget Y 26 :: .v (.bool c) :: lget Y 27 :: lget Y 28 :: lget Y 29 :: lget Y 30 :: lget Y 31 :: lget Y 32 :: []) ∧ (c = true ↔ (i : Int) ∉ l ∧ never m (l ++ [(i : Int)]) n)) (wp_drawK rfl ?_) ?_
 · repeat (first | refine k_move rfl rfl rfl ?_)
   refine k_call rfl rfl rfl (fun b h => by cases h) (wop_callF rfl rfl rfl (fn := Tryz.f85) (by rfl) ?_)
   refine c85 hq H4 (.v yv) l i hy4.sl (by omega) _ ⟨Nat.le_refl _, Keeps.refl _, ?_⟩
   by_cases hin : (i : Int) ∈ l
   · rw [decide_eq_true hin]
     refine k_not rfl rfl rfl rfl ?_
     repeat (first | refine k_skip rfl rfl ?_ | refine k_move rfl rfl rfl ?_)
     refine k_loudSkip rfl rfl (Keeps.refl _) ?_
     refine k_alcSkip rfl rfl ?_
     refine k_loudSkip rfl rfl (Keeps.refl _) ?_
     refine k_loudSkip rfl rfl (Keeps.refl _) ?_
     repeat (first | refine k_nil ?_ | refine k_pick rfl rfl rfl rfl ?_)
     exact ⟨rfl, rfl, Keeps.refl _, by omega, [_,_,_,_,_,_,_,_,_,_,_,_,_,_,_,_,_,_,_,_,_,_,_,_,_,_,_,_,_,_,_,_,_], false, rfl, ⟨(fun h => by cases h), fun h => absurd hin h.1⟩⟩
   rw [decide_eq_false hin]
   refine k_not rfl rfl rfl rfl ?_
   repeat (first | refine k_move rfl rfl rfl ?_ | refine k_load4 rfl rfl rfl rfl ‹_› ‹_› ?_)
   refine k_call rfl rfl rfl (fun b h => by cases h) (wop_callF rfl rfl rfl (fn := Tryz.f92) (by rfl) ?_)
   refine cClone hq H4 yv l hy4.sl (by omega) (by omega) _ fun H5 r5 k5 n5 hA5 hn5 => ⟨k5.nx, k5, ?_⟩
   have r39 : H5.next < 2 ^ 39 := by omega
   refine k_build1 rfl rfl rfl rfl r39 ?_
   refine WK.mem (fun H6 => Keeps H4 H6 ∧ H6.next = H5.next + 1 ∧ Ap H6 r5 l ∧ H6.get H5.next = some (.cells [iv (i : Int)] 3 0)) ⟨k5.add _ r39, rfl, hA5.keep ((Keeps.refl H5).add _ r39), get_add_eq r39⟩ ?_
   rintro H6 ⟨k6, n6, hA6, g6⟩
   refine k_loud rfl rfl (o_append1A (H0 := H4) (l := l) (z := (i : Int)) rfl rfl rfl rfl rfl (by omega) (by omega) rfl g6 hA6 hn5 k6 fun r7 H7 hA7 _ k7 n7 _ => ⟨k7, ?_⟩)
   have h6s := h6.snoc hsb hin
   have hky7 := hA7.ky
   refine k_call rfl rfl rfl (fun b h => by cases h) (wop_callF rfl rfl rfl (fn := Tryz.f89) (by rfl) ?_)
   have k47 := k4.trans k7
   refine c89 hq H7 _ x r7 m (l ++ [(i : Int)]) n _ rfl (hx.keep ho k47) (ho.keep k47) hky7.sl hky7.old hky7.lk h6s.good (by omega) _ (fun H8 k p k8 n8 f1 => ⟨k8.nx, k7.trans k8, ?_⟩) (fun H8 k8 n8 f1 => ⟨k8.nx, k7.trans k8, ?_⟩)
   · repeat (first | refine k_nil ?_ | refine k_pick rfl rfl rfl rfl ?_)
     exact ⟨rfl, rfl, k7.trans k8, by omega, [_,_,_,_,_,_,_,_,_,_,_,_,_,_,_,_,_,_,_,_,_,_,_,_,_,_,_,_,_,_,_,_,_], false, rfl, ⟨(fun h => by cases h), fun h => (mtF_not f1 (h.2 _)).elim⟩⟩
   · repeat (first | refine k_nil ?_ | refine k_pick rfl rfl rfl rfl ?_)
     exact ⟨rfl, rfl, k7.trans k8, by omega, [_,_,_,_,_,_,_,_,_,_,_,_,_,_,_,_,_,_,_,_,_,_,_,_,_,_,_,_,_,_,_,_,_], true, rfl, ⟨fun _ => ⟨hin, f1⟩, fun _ => rfl⟩⟩
 rintro x' T' M' H5 ⟨rfl, rfl, k5, n5, Y2, c, rfl, hc⟩
 have k05 := k4.trans k5
 have h5n := k5.nx
 have hb5 : H5.next ≤ H.next + 1000000 + (i + 1) * 1000000 := bndF n5 n4
 have hb6 : H.next < H5.next := Nat.lt_of_lt_of_le h4n h5n
 have hfl : fr.length ≤ i := by rw [hfr]; exact freeL_len _ _ _ _
 have b5 := b4.keep h4n k5
 have hG5 := hG.frame k5.nx fun b hb => k5.get b (hG.old b hb)
 skip
 refine wp_cond rfl (fun h => ?_) (fun h => ?_)
 · have hc1 := hc.1 h
   have r5 : H5.next < 2 ^ 39 := by omega
   repeat (first | refine qM rfl rfl ?_ | apply qR)
   refine wops_cons (o_build1 rfl rfl rfl r5 ?_)
   have k6 := (Keeps.refl H5).add (.cells [iv (i : Int)] 3 0) r5
   have g6 : (H5.add (.cells [iv (i : Int)] 3 0)).get H5.next = some (.cells [iv (i : Int)] 3 0) := get_add_eq r5
   have n6 : (H5.add (.cells [iv (i : Int)] 3 0)).next = H5.next + 1 := rfl
   have hG6 := hG5.frame k6.nx fun b hb => k6.get b (hG5.old b hb)
   refine WOps.mem (fun H6 => Keeps H5 H6 ∧ H6.next = H5.next + 1 ∧ Gr H6 3 r (ivs fr) ∧ H6.get H5.next = some (.cells [iv (i : Int)] 3 0)) ⟨k6, n6, hG6, g6⟩ ?_
   clear k6 g6 n6 hG6
   rintro H6 ⟨k6, n6, hG6, g6⟩
   refine wops_cons (o_append (cs := ivs fr) (v := iv (i : Int)) rfl rfl rfl rfl rfl (by rw [ivs_length]; omega) (by omega) rfl g6 rfl hG6 fun r7 H7 e7 n7 gl7 g7 g7' hG7 => ?_)
   have k56 := k05.trans k6
   repeat (first | apply qN | refine qM rfl rfl ?_ | refine zq4 rfl rfl rfl rfl (inc (by omega)) ?_ | apply qR)
   refine ⟨4 * n - (i + 1), by omega, i + 1, [_,_,_,_,_,_,_,_,_,_,_,_,_,_,_,_,_,_,_,_,_,_,_,_,_,_,_,_,_,_,_,_,_,_,_], r7, fr ++ [(i : Int)], rfl, by omega, ⟨by omega, gl7.trans k56.gl, fun b hb => ?_⟩, by omega, by omega, ⟨b5.lt, ?_⟩, by rw [ivs_snoc]; exact hG7, fun b hb => ?_, by rw [hfr, freeL_succ, if_pos hc1], rfl, rfl⟩
   · rw [g7 b (by omega) (fun e => by have := hro b e; omega)]; exact k56.get b hb
   · rw [g7 H.next (by omega) (fun e => by have := hro _ e; omega)]
     exact (k6.get _ (by omega)).trans b5.g
   · rw [e7] at hb; cases hb; omega
 · repeat (first | apply qN | refine qM rfl rfl ?_ | refine zq4 rfl rfl rfl rfl (inc (by omega)) ?_ | apply qR | apply qK)
   exact ⟨4 * n - (i + 1), by omega, i + 1, [_,_,_,_,_,_,_,_,_,_,_,_,_,_,_,_,_,_,_,_,_,_,_,_,_,_,_,_,_,_,_,_,_,_,_], r, fr, rfl, by omega, k05, hb6, hb5, b5, hG5, hro, by rw [freeL_succ, if_neg (fun e => by rw [hc.2 e] at h; cases h), List.append_nil]; exact hfr, rfl, rfl⟩
end Go.Ev
namespace Go.Ev
open Go.Proofs
theorem never_snoc {m : Mc} {n : Nat} {l : List Int} {s : Int} (hV : Vld m l n) (hs : 0 ≤ s ∧ s < ((4 * n : Nat) : Int)) (hev : m.ring = true → n % 2 = 0) (hn : never m l n) : never m (l ++ [s]) n ↔ ∀ z ∈ l, ∀ j, ¬ meetAt m n s.toNat z.toNat j := by
 have hr : InR (4 * n) (l ++ [s]) := fun z hz => by
   rcases List.mem_append.1 hz with hz | hz
   · exact hV.hl z hz
   · rw [List.mem_singleton.1 hz]; exact hs
 have key : ∀ j, mtN m (nowL (permL m n) (l ++ [s]) j) ↔ ∀ z ∈ l, ¬ meetAt m n s.toNat z.toNat j := fun j => by
   rw [mtN_iff, mt_pairs hV.hg hV.hn1 hev hr j]
   constructor
   · intro h z hz hm
     obtain ⟨i, hi⟩ := List.mem_iff_getElem?.1 hz
     have hi' := (List.getElem?_eq_some_iff.1 hi).1
     refine h ⟨s, z, ⟨l.length, i, hi', .inl (by simp), by simp, ?_⟩, hm⟩
     rw [List.getElem?_append_left hi']; exact hi
   · rintro h ⟨a, b, ⟨i, k, h1, h2, h3, h4⟩, hm⟩
     have hi : i ≤ l.length := by
       have := (List.getElem?_eq_some_iff.1 h3).1
       rw [List.length_append, List.length_singleton] at this; omega
     have h4' : l[k]? = some b := by rw [List.getElem?_append_left (by omega)] at h4; exact h4
     by_cases e : i = l.length
     · subst e
       rw [List.getElem?_append_right (Nat.le_refl _), Nat.sub_self] at h3
       have h3 : s = a := by simpa using h3
       subst h3
       exact h b (List.mem_of_getElem? h4') hm
     · have h3' : l[i]? = some a := by rw [List.getElem?_append_left (by omega)] at h3; exact h3
       have := mtN_iff.1 (hn j)
       exact this ((mt_pairs hV.hg hV.hn1 hev hV.hl j).2 ⟨a, b, ⟨i, k, h1, .inl (by omega), h3', h4'⟩, hm⟩)
 exact ⟨fun h z hz j => (key j).1 (h j) z hz, fun h j => (key j).2 fun z hz => h z hz j⟩
variable {O : CallF} (hq : Quiet O)
include hq
end Go.Ev
namespace Go.Ev
open Go.Proofs
open Classical in
noncomputable def wmL (m : Mc) (n : Nat) (s : Int) (l : List Int) : List Int := l.filter fun z => decide (never m [s, z] n)
open Classical in
theorem wmL_take {m : Mc} {n : Nat} {s z : Int} {l : List Int} {i : Nat} (hz : l[i]? = some z) : wmL m n s (l.take (i + 1)) = wmL m n s (l.take i) ++ if never m [s, z] n then [z] else [] := by
 unfold wmL
 rw [List.take_add_one, hz]
 simp only [Option.toList, List.filter_append, List.filter_cons, List.filter_nil, decide_eq_true_eq]
theorem wmL_len (m : Mc) (n : Nat) (s : Int) (l : List Int) : (wmL m n s l).length ≤ l.length := by
 unfold wmL; exact List.length_filter_le _ _
variable {O : CallF} (hq : Quiet O)
include hq
theorem c93 (H : AH) (a x y : AV) (m : Mc) (s : Int) (l : List Int) (n : Nat) (ha : a.cells = mc m x) (hx : Sl H x (ivs m.sw)) (ho : Old H x) (hy : Sl H y (ivs l)) (hoy : Old H y) (hV : ∀ z ∈ l, Vld m [s, z] n) (hl : l.length ≤ 64) (hr : H.next + 100000000 < 2 ^ 39)
   (K : AV → AH → Prop) (hk : ∀ H' r, Keeps H H' → H'.next ≤ H.next + 1 + l.length * 1000000 → Gr H' 3 r (ivs (wmL m n s l)) → (∀ b, r.own = some b → H.next ≤ b) → K r H') : Ca (ENV O) 93 [a, iv s, y] H K := by
 refine ca_intro (hq _ _ _ rfl) (fn := Tryz.f93) (by rfl) rfl ?_
 repeat (first | apply qR | apply qS)
 refine wops_cons (o_boxM rfl rfl ha (by omega) fun H1 n1 k1 b1 => ?_)
 have hy1 := hy.keep hoy k1
 have hoy1 := hoy.keep k1
 repeat (first | apply qN | refine qM rfl rfl ?_ | refine zq5 rfl rfl rfl rfl rfl ‹_› ?_ | apply qR | apply qS | apply qB)
 refine wp_loop (fun q T M H' => ∃ (i : Nat) (Y : List AV) (r : AV), q = l.length - i ∧ i ≤ l.length ∧ Keeps H1 H' ∧ H'.next ≤ H1.next + i * 1000000 ∧ Gr H' 3 r (ivs (wmL m n s (l.take i))) ∧ (∀ b, r.own = some b → H1.next ≤ b) ∧ M = [] ∧ T = (lget Y 0 :: iv s :: lget Y 1 :: .ptr H.next 0 :: lget Y 2 :: lget Y 3 :: lget Y 4 :: r :: lget Y 5 :: lget Y 6 :: y :: iv (l.length : Nat) :: iv (i : Nat) :: lget Y 7 :: lget Y 8 :: lget Y 9 :: lget Y 10 :: lget Y 11 :: lget Y 12 :: lget Y 13 :: lget Y 14 :: lget Y 15 :: lget Y 16 :: lget Y 17 :: lget Y 18 :: lget Y 19 :: lget Y 20 :: [])) l.length
   ⟨0, [_,_,_,_,_,_,_,_,_,_,_,_,_,_,_,_,_,_,_,_,_], .v (.slice none 0 0), rfl, Nat.zero_le _, Keeps.refl _, by omega, .inl ⟨rfl, rfl⟩, (fun b hb => by cases hb), rfl, rfl⟩ ?_
 rintro q T M H2 ⟨i, Y, r, hq1, hi, k2, n2, hG, hro, rfl, rfl⟩
 have k02 := k1.trans k2
 have l2 := k2.nx
 have b2 := b1.keep (by omega) k2
 have hy2 := hy1.keep hoy1 k2
 repeat (first | apply qR | apply qS)
 refine wops_cons (wop_cmp rfl rfl rfl rfl rfl (fun h => ?_) (fun h => ?_))
 rotate_left
 · have h : ¬ ((i : Int) < (l.length : Nat)) := of_decide_eq_false h
   rw [List.take_of_length_le (by omega)] at hG
   repeat (first | apply qN | refine qM rfl rfl ?_ | refine qF rfl ?_ | apply qR | apply qS | apply qE)
   refine wp_ret ?_
   exact ⟨_, _, rfl, hk H2 r k02 (by have : i * 1000000 ≤ l.length * 1000000 := Nat.mul_le_mul_right _ hi; omega) hG fun b hb => by have := hro b hb; omega⟩
 have h' : (i : Int) < (l.length : Nat) := of_decide_eq_true h
 have hi' : i < l.length := by omega
 clear h
 obtain ⟨z, hz⟩ := l_some hi'
 have hVz := hV z (List.mem_of_getElem? hz)
 repeat (first | apply qN | refine qT rfl ?_ | apply qR | apply qS | apply qK | apply qB)
 refine wops_cons (o_indexI rfl rfl hy2 rfl hz fun pp hpp => ?_)
 repeat (first | apply qN | refine qM rfl rfl ?_ | refine zq6 rfl rfl ‹_› ?_ | refine zqb rfl rfl rfl ‹_› ?_ | apply qR | apply qS)
 have r2 : H2.next < 2 ^ 39 := by omega
 refine wops_cons (o_build2 rfl rfl rfl rfl r2 ?_)
 have hG3 := hG.frame (H' := H2.add (.cells [iv s, iv z] 3 0)) (Nat.le_succ _) fun b hb => get_add_ne r2 (by have := hG.old b hb; omega)
 refine WOps.mem (fun H3 => Keeps H2 H3 ∧ H3.next = H2.next + 1 ∧ Sl H3 (.slc H2.next 0 2 2) (ivs [s, z]) ∧ Lk H3 H2.next ∧ Gr H3 3 r (ivs (wmL m n s (l.take i)))) ⟨(Keeps.refl H2).add _ r2, rfl, sl_cells r2 (get_add_eq r2) rfl fun j v h => h, ⟨Nat.lt_succ_self _, by rw [get_add_eq r2]; exact sameBlk_ivs [s, z] 3 0⟩, hG3⟩ ?_
 clear hG3
 rintro H3 ⟨k3, n3, hs3, hlk3, hG3⟩
 have k03 := k02.trans k3
 have b3 := b2.keep (by omega) k3
 refine wops_cons (wop_callF rfl rfl rfl (fn := Tryz.f89) (by rfl) ?_)
 refine c89 hq H3 _ x (.slc H2.next 0 2 2) m [s, z] n _ rfl (hx.keep ho k03) (ho.keep k03) hs3 (fun b hb => by cases hb; show H2.next < H3.next; omega) (fun b hb => by cases hb; exact hlk3) hVz.good (by omega) _ (fun H4 k p k4 n4 f1 => ⟨k4.nx, ?_⟩) (fun H4 k4 n4 f1 => ⟨k4.nx, ?_⟩)
 · have hG4 := hG3.frame k4.nx fun b hb => k4.get b (hG3.old b hb)
   repeat (first | apply qN | refine qM rfl rfl ?_ | refine zq4 rfl rfl rfl rfl (inc (by omega)) ?_ | refine qF rfl ?_ | apply qR | apply qK)
   refine ⟨l.length - (i + 1), by omega, i + 1, [_,_,_,_,_,_,_,_,_,_,_,_,_,_,_,_,_,_,_,_,_], r, rfl, by omega, (k2.trans k3).trans k4, by omega, ?_, hro, rfl, rfl⟩
   rw [wmL_take hz, if_neg (fun e => mtF_not f1 (e _)), List.append_nil]
   exact hG4
 · have hG4 := hG3.frame k4.nx fun b hb => k4.get b (hG3.old b hb)
   have r4 : H4.next < 2 ^ 39 := by omega
   have hwl := wmL_len m n s (l.take i)
   have htl : (l.take i).length ≤ 64 := by rw [List.length_take]; omega
   repeat (first | apply qN | refine qM rfl rfl ?_ | refine qT rfl ?_ | apply qR)
   refine wops_cons (o_build1 rfl rfl rfl r4 ?_)
   have k5 := (Keeps.refl H4).add (.cells [iv z] 3 0) r4
   have G5 := hG4.frame k5.nx fun b hb => k5.get b (hG4.old b hb)
   refine wops_cons (o_append rfl rfl rfl rfl rfl (by rw [ivs_length]; omega) (by show H4.next + 1 < _; omega) rfl (get_add_eq r4) rfl G5 fun r6 H6 er n6 gl6 b6 _ G6 => ?_)
   have k6 := keeps_append (((k2.trans k3).trans k4).add (.cells [iv z] 3 0) r4) n6 gl6 b6 hro
   have n6 : H6.next = H4.next + 1 + 1 := n6
   repeat (first | apply qN | refine qM rfl rfl ?_ | refine zq4 rfl rfl rfl rfl (inc (by omega)) ?_ | apply qR)
   refine ⟨l.length - (i + 1), by omega, i + 1, [_,_,_,_,_,_,_,_,_,_,_,_,_,_,_,_,_,_,_,_,_], r6, rfl, by omega, k6, by omega, ?_, (fun b hb => by subst er; cases hb; have := k3.nx; have := k4.nx; show H1.next ≤ H4.next + 1; omega), rfl, rfl⟩
   rw [wmL_take hz, if_pos f1, ivs_snoc]
   exact G6
end Go.Ev
namespace Go.Ev
open Go.Proofs
theorem first_slu {H : AH} {b : Nat} {l : List Int} (h : H.get b = some (.cells (ivs l) 3 1)) : lenA (.slu b 0 l.length 1) = some l.length ∧ firstA 1 l.length (.slu b 0 l.length 1) H = some (ivs l) := by
 refine ⟨rfl, ?_⟩
 have hl : (ivs l).length = l.length := ivs_length l
 simp only [firstA, h]
 rw [if_pos (by rw [hl]; simp)]
 simp only [List.drop_zero, Nat.mul_one]
 rw [← hl, List.take_length]
section
variable {O : CallF} {T : List AV} {H H0 : AH} {ops : Array Oper} {o : Oper} {i : Nat} {π : List Stp}
theorem o_appendU {K : AV → AH → Prop} {c : Call} {t xt e' : TypeId} {s x : Operand} {bx : Nat} {l : List Int} {b : Nat} (ho : o.op = .call c) (hg : wantedA o ops T = true) (hc : c.callee = .builtin .append) (hargs : c.args.toList = [s, x]) (ht : c.argTypes.toList = [t, xt]) [hu : TyS t 3] [hux : TyS xt e']
   (hlen : l.length ≤ 2 ^ 30) (hr : H.next < 2 ^ 39) (hsx : av T s = .slc b 0 0 0) (hbn : b < H.next) (hgb : H.get b = some (.cells [] 3 0)) (hx : av T x = .slu bx 0 l.length 1) (hy : H.get bx = some (.cells (ivs l) 3 1)) (hb0 : H0.next ≤ b) (hk0 : Keeps H0 H)
   (hk : ∀ a H4, Ap H4 a l → (∀ d, a.own = some d → H0.next ≤ d) → Keeps H0 H4 → H4.next ≤ H.next + 1 → H.next ≤ H4.next → K a H4) : WOp (ENV O) ops o T H K := by
 obtain ⟨f1, f2⟩ := first_slu hy
 have hz : Zero 3 (.int .i64 0) := inferInstance
 have hs : Cell 3 := inferInstance
 have hb39 : b < 2 ^ 39 := by omega
 refine wop_appendE ho hg hc hargs (arg0 ht) (arg1 ht) hu.u hux.u hz.i hs.s hz.z (by rw [hz.c]; rfl) (Nat.le_of_ble_eq_true hz.b) hlen hr hsx hgb (by rw [hx]; exact f1) (by rw [hx]; exact f2) (ivs_one l) (ivs_length l) (fun h0 => ?_) (fun h0 => ?_)
 · have e : l = [] := List.eq_nil_of_length_eq_zero h0
   subst e
   exact hk _ _ (.inr (.inl ⟨b, rfl, rfl, hbn, hb39, get_set_eq hb39⟩)) (fun d hd => by cases hd; exact hb0) (hk0.set _ hb0 hb39) (Nat.le_succ _) (Nat.le_refl _)
 · exact hk _ _ (.inr (.inr ⟨H.next, rfl, Nat.lt_succ_self _, hr, get_add_eq hr⟩)) (fun d hd => by cases hd; have := hk0.nx; omega) (hk0.add _ hr) (Nat.le_refl _) (Nat.le_succ _)
theorem o_nilEqU {K : AV → AH → Prop} {t yt : TypeId} {x : Operand} {b off n sz : Nat} (ho : o.op = .binOp .eql t x (.const (.slice none 0 0)) yt) (hg : wantedA o ops T = true) (ht : t = 22) (hx : av T x = .slu b off n sz) (hk : K (.v (.bool false)) H) : WOp (ENV O) ops o T H K := by
 subst ht
 refine wop_val (by rw [ho]; rfl) hg (r := .v (.bool false)) ?_ (Nat.le_refl _) hk
 unfold opEval; rw [ho]
 have hc : av T (.const (.slice none 0 0)) = .v (.slice none 0 0) := rfl
 have h0 : nilEqA Tryz.prog 22 (.slu b off n sz) (.v (.slice none 0 0)) = true := by rfl
 simp only [ENV, oBin, oBinSlow, hx, hc, h0]
end
variable {O : CallF} (hq : Quiet O)
include hq
theorem cCloneU (H : AH) (b : Nat) (l : List Int) (hb : b < H.next) (hg : H.get b = some (.cells (ivs l) 3 1)) (hl : l.length ≤ 1000) (hr : H.next + 10 < 2 ^ 39)
   (K : AV → AH → Prop) (hk : ∀ H' r, Keeps H H' → H'.next ≤ H.next + 2 → Ap H' r l → (∀ b, r.own = some b → H.next ≤ b) → K r H') : Ca (ENV O) 92 [.slu b 0 l.length 1] H K := by
 refine ca_intro (hq _ _ _ rfl) (fn := Tryz.f92) (by rfl) rfl ?_
 repeat (first | apply qN | refine qM rfl rfl ?_ | apply qR | apply qS)
 refine wops_cons (o_nilEqU rfl rfl rfl rfl ?_)
 repeat (first | apply qN | refine qF rfl ?_ | apply qR | apply qS | apply qK)
 have r0 : H.next < 2 ^ 39 := by omega
 refine wops_cons (o_build0 rfl rfl r0 ?_)
 have k1 := (Keeps.refl H).add (.cells [] 3 0) r0
 have g1 : (H.add (.cells [] 3 0)).get H.next = some (.cells [] 3 0) := get_add_eq r0
 have n1 : (H.add (.cells [] 3 0)).next = H.next + 1 := rfl
 generalize H.add (.cells [] 3 0) = H1 at k1 g1 n1 ⊢
 repeat (first | refine qM rfl rfl ?_)
 refine wops_cons (o_appendU (H0 := H) (l := l) rfl rfl rfl rfl rfl (by omega) (by omega) rfl (by omega) g1 rfl ((k1.get b hb).trans hg) (Nat.le_refl _) k1 fun r H2 hA hn k2 n2 _ => ?_)
 repeat (first | apply qN | refine qM rfl rfl ?_)
 refine wp_ret ?_
 exact ⟨_, _, rfl, hk H2 r k2 (by omega) hA hn⟩
end Go.Ev
namespace Go.Ev
open Go.Proofs
section
variable {O : CallF} {T : List AV} {H H0 : AH} {ops : Array Oper} {o : Oper} {i : Nat} {π : List Stp} {B : Nat → Prop}
theorem sing_own {b : Nat} {x : AB} (hb : b < 2 ^ 39) (h : H0.get b = some x) : (sing H0 (some b)).get b = some x := by
 unfold sing
 simp only [h]
 exact get_set_eq hb
theorem x_build1 {K : List AV → AH → Prop} {t e : TypeId} {x : Operand} {z0 : Value} (h1 : ops.toList[i]? = some o) (ho : o.op = .buildSlice t 1 #[(0, x)]) (hg : wantedA o ops T = true) [hu : TyS t e] [hs : Cell e] [hz : Zero e z0] (hx : (av T x).one = true) (hr : H.next < 2 ^ 39)
   (hk : WX (ENV O) ops H0 B π (putA T o.dst (.slc H.next 0 1 1)) (H.add (.cells [av T x] e 0)) K) : WX (ENV O) ops H0 B (.alc i :: π) T H K := by
 have hlt : Nat.blt H.next (2 ^ 39) = true := Nat.ble_eq_true_of_le hr
 refine ⟨o, h1, .inr ⟨hg, some (1, 1), [av T x], e, H.add (.cells [av T x] e 0), ?_, ?_, hk⟩⟩
 · unfold laysA; rw [ho]
   simp only [ENV, hu.u, hs.s, hz.z, hz.c]
   rw [if_pos (by decide)]
   simp [fillA, cells_one hx, wr]
 · simp only [newA, hlt, if_true]
theorem x_slFromU {K : List AV → AH → Prop} {t e : TypeId} {x l : Operand} {b n k : Nat} {cs : List AV} {e' : TypeId} {g : Nat} (h1 : ops.toList[i]? = some o) (ho : o.op = .slice t x (some l) none none) (hg : wantedA o ops T = true) [hu : TyS t e] [hs : Cell e] (hx : av T x = .slu b 0 n 1) (hl : av T l = iv k) (hkn : k < n)
   (hb : b < 2 ^ 39) (hgb : H0.get b = some (.cells cs e' g)) (hn : n ≤ cs.length) (hB : B b) (hk : WX (ENV O) ops H0 B π (putA T o.dst (.slu b k (n - k) 1)) H K) : WX (ENV O) ops H0 B (.mob i :: π) T H K := by
 have hr : rdA T o = some b := by unfold rdA; rw [ho]; simp only [hx]
 refine x_mob h1 hg (r := .slu b k (n - k) 1) ?_ (fun d hd => by rw [hr] at hd; cases hd; exact hB) hk
 rw [hr]
 unfold mobEval
 rw [ho]
 have h2 := hu.u
 have h3 := hs.s
 have h4 := sing_own hb hgb
 simp only [ENV, hx, isV, Bool.false_eq_true, if_false, sliceA, boundA, hl, natA, Option.map_some, h2, h3, h4, Option.getD_none, Option.getD_some]
 rw [if_pos (by simp [Nat.ble_eq_true_of_le, Nat.blt_eq, hn, hkn, Nat.le_of_lt hkn])]
 simp
theorem x_slFromE {K : List AV → AH → Prop} {t e : TypeId} {x l : Operand} {b n : Nat} {cs : List AV} {e' : TypeId} {g : Nat} (h1 : ops.toList[i]? = some o) (ho : o.op = .slice t x (some l) none none) (hg : wantedA o ops T = true) [hu : TyS t e] [hs : Cell e] (hx : av T x = .slu b 0 (n + 1) 1) (hl : av T l = iv (n + 1 : Nat))
   (hb : b < 2 ^ 39) (hgb : H0.get b = some (.cells cs e' g)) (hn : n + 1 ≤ cs.length) (hB : B b) (hk : WX (ENV O) ops H0 B π (putA T o.dst (.sle b 0 (n + 1) 1)) H K) : WX (ENV O) ops H0 B (.mob i :: π) T H K := by
 have hr : rdA T o = some b := by unfold rdA; rw [ho]; simp only [hx]
 refine x_mob h1 hg (r := .sle b 0 (n + 1) 1) ?_ (fun d hd => by rw [hr] at hd; cases hd; exact hB) hk
 rw [hr]
 unfold mobEval
 rw [ho]
 have h2 := hu.u
 have h3 := hs.s
 have h4 := sing_own hb hgb
 simp only [ENV, hx, isV, Bool.false_eq_true, if_false, sliceA, boundA, hl, natA, Option.map_some, h2, h3, h4, Option.getD_none, Option.getD_some]
 rw [if_neg (by simp)]
 rw [if_pos (by simp [hn])]
theorem o_lenE {K : AV → AH → Prop} {c : Call} {t e : TypeId} {x : Operand} {b off k : Nat} (ho : o.op = .call c) (hg : wantedA o ops T = true) (hc : c.callee = .builtin .len) (hargs : c.args.toList = [x]) (ht : c.argTypes.toList = [t]) [hu : TyS t e] (hx : av T x = .sle b off k 1)
   (hk : K (iv (0 : Nat)) H) : WOp (ENV O) ops o T H K := by
 refine wop_val (by rw [ho]; simp only [still, hc]) hg (r := iv (0 : Nat)) (H' := H) ?_ (Nat.le_refl _) hk
 unfold opEval; rw [ho]
 have h2 := hu.u
 have h3 := arg0 ht
 simp only [ENV, oCall, hc, hargs]
 simp [hx, h2, h3, lenA, oBuiltin, oLen, iv, lenOpA]
 rfl
end
variable {O : CallF} (hq : Quiet O)
include hq
theorem c93e (H : AH) (a x : AV) (m : Mc) (s : Int) (b off k : Nat) (ha : a.cells = mc m x) (hr : H.next + 10 < 2 ^ 39)
   (K : AV → AH → Prop) (hk : ∀ H', Keeps H H' → H'.next ≤ H.next + 1 → K (.v (.slice none 0 0)) H') : Ca (ENV O) 93 [a, iv s, .sle b off k 1] H K := by
 refine ca_intro (hq _ _ _ rfl) (fn := Tryz.f93) (by rfl) rfl ?_
 repeat (first | apply qR | apply qS)
 refine wops_cons (o_boxM rfl rfl ha (by omega) fun H1 n1 k1 b1 => ?_)
 repeat (first | apply qN | refine qM rfl rfl ?_ | apply qR | apply qS)
 refine wops_cons (o_lenE rfl rfl rfl rfl rfl rfl ?_)
 repeat (first | apply qN | refine qM rfl rfl ?_ | apply qB)
 refine wp_loop (fun q T M H' => ∃ (Y : List AV), q = 0 ∧ H' = H1 ∧ M = [] ∧ T = (lget Y 0 :: lget Y 1 :: lget Y 2 :: lget Y 3 :: lget Y 4 :: lget Y 5 :: lget Y 6 :: .v (.slice none 0 0) :: lget Y 7 :: lget Y 8 :: lget Y 9 :: iv (0 : Nat) :: iv (0 : Nat) :: lget Y 10 :: lget Y 11 :: lget Y 12 :: lget Y 13 :: lget Y 14 :: lget Y 15 :: lget Y 16 :: lget Y 17 :: lget Y 18 :: lget Y 19 :: lget Y 20 :: lget Y 21 :: lget Y 22 :: lget Y 23 :: [])) 0
   ⟨[_,_,_,_,_,_,_,_,_,_,_,_,_,_,_,_,_,_,_,_,_,_,_,_], rfl, rfl, rfl, rfl⟩ ?_
 rintro q T M H2 ⟨Y, hq1, rfl, rfl, rfl⟩
 repeat (first | apply qR | apply qS)
 refine wops_cons (wop_cmp rfl rfl rfl rfl rfl (fun h => ?_) (fun h => ?_))
 · exact absurd (of_decide_eq_true h) (by simp)
 repeat (first | apply qN | refine qM rfl rfl ?_ | refine qF rfl ?_ | apply qR | apply qS | apply qE)
 refine wp_ret ?_
 exact ⟨_, _, rfl, hk _ k1 (by omega)⟩
end Go.Ev
namespace Go.Ev
open Go.Proofs
def upB (best load : List Int) : List Int := if best.length < load.length then load else best
def rnd (e : List Int → List Int → List Int → List Int) (w : Int → List Int → List Int) (load : List Int) : List Int → List Int → List Int
 | best, [] => best
 | best, s :: t => rnd e w load (e best (load ++ [s]) (w s t)) t
def cstF : Nat → Nat
 | 0 => 0
 | k + 1 => cstF k + (cstF k + (k * 1000000 + 100))
theorem cstF_mono : ∀ {a b : Nat}, a ≤ b → cstF a ≤ cstF b := by
 have h1 : ∀ a, cstF a ≤ cstF (a + 1) := fun a => by show cstF a ≤ cstF a + _; exact Nat.le_add_right _ _
 intro a b h
 induction h with
 | refl => exact Nat.le_refl _
 | step h ih => exact Nat.le_trans ih (h1 _)
theorem Ap.gr {H : AH} {r : AV} {l : List Int} (h : Ap H r l) (hne : l ≠ []) : Gr H 3 r (ivs l) := by
 rcases h with ⟨_, e⟩ | ⟨b, _, e, _⟩ | ⟨b, rfl, h1, h2, h3⟩
 · exact absurd e hne
 · exact absurd e hne
 · exact .inr ⟨b, h1, h2, by rw [ivs_length], h3⟩
structure KX (bp : Nat) (H H' : AH) : Prop where
 nx : H.next ≤ H'.next
 gl : H'.gl = H.gl
 get : ∀ b, b < H.next → b ≠ bp → H'.get b = H.get b
theorem KX.refl (bp : Nat) (H : AH) : KX bp H H := ⟨Nat.le_refl _, rfl, fun _ _ _ => rfl⟩
theorem KX.trans {bp : Nat} {H H1 H2 : AH} (h : KX bp H H1) (k : KX bp H1 H2) : KX bp H H2 := ⟨Nat.le_trans h.nx k.nx, k.gl.trans h.gl, fun b hb hn => (k.get b (Nat.lt_of_lt_of_le hb h.nx) hn).trans (h.get b hb hn)⟩
theorem Keeps.kx {H H' : AH} (k : Keeps H H') (bp : Nat) : KX bp H H' := ⟨k.nx, k.gl, fun b hb _ => k.get b hb⟩
theorem Gr.kx {H H' : AH} {bp : Nat} {e : TypeId} {s : AV} {cs : List AV} (h : Gr H e s cs) (hn : s.own ≠ some bp) (k : KX bp H H') : Gr H' e s cs :=
 h.frame k.nx fun b hb => k.get b (h.old b hb) (fun e => hn (e ▸ hb))
structure FlE (H : AH) (bp fp mb : Nat) (m : Mc) (x : AV) : Prop where
 gf : H.get fp = some (.cells [.fn (.func 91) [] [.ptr bp 0, .ptr fp 0, .ptr mb 0]] 120 0)
 bm : Bx H mb 24 m x
 lb : bp < H.next
 lf : fp < H.next
 lm : mb < H.next
 nf : fp ≠ bp
 nm : mb ≠ bp
 hx : Sl H x (ivs m.sw)
 ho : Old H x
 xo : x.own ≠ some bp
theorem FlE.kx {H H' : AH} {bp fp mb : Nat} {m : Mc} {x : AV} (h : FlE H bp fp mb m x) (k : KX bp H H') : FlE H' bp fp mb m x :=
 { gf := (k.get _ h.lf h.nf).trans h.gf
   bm := ⟨h.bm.lt, (k.get _ h.lm h.nm).trans h.bm.g⟩
   lb := Nat.lt_of_lt_of_le h.lb k.nx
   lf := Nat.lt_of_lt_of_le h.lf k.nx
   lm := Nat.lt_of_lt_of_le h.lm k.nx
   nf := h.nf
   nm := h.nm
   hx := h.hx.frame k.gl fun b hb => k.get b (h.ho b hb) (fun e => h.xo (e ▸ hb))
   ho := fun b hb => Nat.lt_of_lt_of_le (h.ho b hb) k.nx
   xo := h.xo }
def FillC (O : CallF) (m : Mc) (n k : Nat) (e : List Int → List Int → List Int → List Int) : Prop :=
 ∀ (H : AH) (bp fp mb : Nat) (x vb y0 y1 : AV) (best load slots : List Int), slots.length < k → FlE H bp fp mb m x →
   H.get bp = some (.cells [vb] 22 0) → Gr H 3 vb (ivs best) → vb.own ≠ some bp → Gr H 3 y0 (ivs load) → y0.own ≠ some bp → Gr H 3 y1 (ivs slots) → y1.own ≠ some bp →
   slots.Nodup → (∀ z ∈ slots, Vld m [z] n) → load.length + slots.length ≤ 64 → best.length ≤ 64 → H.next + cstF slots.length + 200000000 < 2 ^ 39 →
   ∀ K : AV → AH → Prop, (∀ H' vb', KX bp H H' → H'.next ≤ H.next + cstF slots.length → H'.get bp = some (.cells [vb'] 22 0) → Gr H' 3 vb' (ivs (e best load slots)) → vb'.own ≠ some bp → (e best load slots).length ≤ 64 → K (.tup []) H') → Ca (ENV O) 91 [y0, y1, .ptr bp 0, .ptr fp 0, .ptr mb 0] H K
instance : Cell 120 := ⟨by kernel_rfl, by kernel_rfl⟩
theorem Vld.two {m : Mc} {n : Nat} {s z : Int} (hs : Vld m [s] n) (hz : Vld m [z] n) (hne : s ≠ z) : Vld m [s, z] n := by
 refine hs.sub (fun y hy => ?_) (by simp [hne])
 rcases List.mem_cons.1 hy with rfl | hy
 · exact hs.hl _ (by simp)
 · exact hz.hl _ (by simpa using hy)
variable {O : CallF} (hq : Quiet O)
include hq
theorem cCloneG (H : AH) (y : AV) (l : List Int) (hy : Gr H 3 y (ivs l)) (hl : l.length ≤ 1000) (hr : H.next + 10 < 2 ^ 39)
   (K : AV → AH → Prop) (hk : ∀ H' r, Keeps H H' → H'.next ≤ H.next + 2 → Ap H' r l → (∀ b, r.own = some b → H.next ≤ b) → K r H') : Ca (ENV O) 92 [y] H K := by
 have hy' := hy
 rcases hy with ⟨rfl, e⟩ | ⟨b, h1, h2, rfl, h3⟩
 · exact cClone hq H _ l hy'.sl hl hr K hk
 · rw [ivs_length]
   exact cCloneU hq H b l h1 h3 hl hr K hk
end Go.Ev
