/- Part of an evaluator of calls that is proved sound, and of what it gives about this program. No condition of its own. -/
import Derived.Test.YthmbdpdojjcgkaaGreatDoorEvKf
set_option linter.unusedVariables false
set_option linter.unusedSimpArgs false
set_option linter.unusedSectionVars false
set_option maxRecDepth 100000
set_option maxHeartbeats 4000000
namespace Go.Ev
open Go.Proofs
def Ap (H : AH) (r : AV) (l : List Int) : Prop :=
  (r = .v (.slice none 0 0) ∧ l = []) ∨ (∃ b, r = .slc b 0 0 0 ∧ l = [] ∧ b < H.next ∧ b < 2 ^ 39 ∧ H.get b = some (.cells [] 3 0)) ∨ (∃ b, r = .slu b 0 l.length 1 ∧ b < H.next ∧ b < 2 ^ 39 ∧ H.get b = some (.cells (ivs l) 3 1))
theorem Ap.ky {H : AH} {r : AV} {l : List Int} (h : Ap H r l) : Ky H r l := by
  rcases h with ⟨rfl, rfl⟩ | ⟨b, rfl, rfl, h1, h2, h3⟩ | ⟨b, rfl, h1, h2, h3⟩
  · exact ⟨⟨rfl, .inl rfl⟩, Old.v _, Nat.le_refl _, fun b hb => by cases hb⟩
  · refine ⟨⟨rfl, h2, _, _, _, h3, fun j v hv => by simp [ivs] at hv⟩, fun d hd => by cases hd; exact h1, Nat.le_refl _, fun d hd => ?_⟩
    cases hd
    exact ⟨h1, by rw [h3]; simp [sameBlk, beqs]⟩
  · refine ⟨⟨(ivs_length l).symm, h2, rfl, _, _, _, h3, fun j v hv => by rw [Nat.zero_add]; exact hv⟩, fun d hd => by cases hd; exact h1, trivial, fun d hd => ?_⟩
    cases hd
    exact ⟨h1, by rw [h3]; simp [sameBlk, beqs_ivs]⟩
theorem Ap.keep {H H' : AH} {r : AV} {l : List Int} (h : Ap H r l) (k : Keeps H H') : Ap H' r l := by
  rcases h with h | ⟨b, h0, h1, h2, h3, h4⟩ | ⟨b, h0, h2, h3, h4⟩
  · exact .inl h
  · exact .inr (.inl ⟨b, h0, h1, Nat.lt_of_lt_of_le h2 k.nx, h3, (k.get b h2).trans h4⟩)
  · exact .inr (.inr ⟨b, h0, Nat.lt_of_lt_of_le h2 k.nx, h3, (k.get b h2).trans h4⟩)
theorem ivs_snoc (l : List Int) (z : Int) : ivs (l ++ [z]) = ivs l ++ [iv z] := by simp [ivs]
section
variable {O : CallF} {T : List AV} {H H0 : AH} {ops : Array Oper} {o : Oper} {i : Nat} {π : List Stp}
theorem o_append1A {K : AV → AH → Prop} {c : Call} {t xt e' : TypeId} {s x : Operand} {l : List Int} {z : Int} {bx : Nat} {ex : TypeId} {gx : Nat} (ho : o.op = .call c) (hg : wantedA o ops T = true) (hc : c.callee = .builtin .append) (hargs : c.args.toList = [s, x]) (ht : c.argTypes.toList = [t, xt]) [hu : TyS t 3] [hux : TyS xt e']
    (hlen : l.length < 2 ^ 20) (hr : H.next < 2 ^ 39) (hx : av T x = .slc bx 0 1 1) (hbx : H.get bx = some (.cells [iv z] ex gx)) (hA : Ap H (av T s) l) (hn : ∀ b, (av T s).own = some b → H0.next ≤ b) (k0 : Keeps H0 H)
    (hk : ∀ r H1, Ap H1 r (l ++ [z]) → (∀ b, r.own = some b → H.next ≤ b) → Keeps H0 H1 → H1.next = H.next + 1 → (∀ b, b ≠ H.next → (av T s).own ≠ some b → H1.get b = H.get b) → K r H1) : WOp (ENV O) ops o T H K := by
  have hGr : Gr H 3 (av T s) (ivs l) → WOp (ENV O) ops o T H K := fun hG => by
    refine o_append (cs := ivs l) (v := iv z) ho hg hc hargs ht (by rw [ivs_length]; omega) hr hx hbx rfl hG fun r H1 e1 n1 gl1 g1 g2 _ => ?_
    rw [ivs_length] at e1
    refine hk r H1 (.inr (.inr ⟨H.next, ?_, by omega, hr, ?_⟩)) (fun b hb => ?_) ⟨by have := k0.nx; omega, gl1.trans k0.gl, fun b hb => ?_⟩ n1 g1
    · rw [e1, List.length_append]; rfl
    · rw [g2, ivs_snoc]
    · rw [e1] at hb; cases hb; exact Nat.le_refl _
    · rw [g1 b (by have := k0.nx; omega) (fun e => by have := hn b e; omega)]; exact k0.get b hb
  rcases hA with ⟨h1, h2⟩ | ⟨b, h0, h1, h2, h3, h4⟩ | ⟨b, h0, h2, h3, h4⟩
  · exact hGr (.inl ⟨h1, by rw [h2]; rfl⟩)
  · subst h1
    have hz : Zero 3 (.int .i64 0) := inferInstance
    have hs : Cell 3 := inferInstance
    refine wop_appendE (n := 1) (new := [iv z]) ho hg hc hargs (arg0 ht) (arg1 ht) hu.u hux.u hz.i hs.s hz.z (by rw [hz.c]; rfl) (Nat.le_of_ble_eq_true hz.b) (by decide) hr h0 h4 (by rw [hx]; rfl) (by rw [hx]; unfold firstA; simp only [hbx]; rfl) rfl rfl (fun e => by cases e) (fun _ => ?_)
    refine hk _ _ (.inr (.inr ⟨H.next, rfl, Nat.lt_succ_self _, hr, get_add_eq hr⟩)) (fun d hd => by cases hd; exact Nat.le_refl _) (k0.add _ hr) rfl fun d hd _ => get_add_ne hr hd
  · exact hGr (.inr ⟨b, h2, h3, by rw [ivs_length]; exact h0, h4⟩)
theorem o_appendA {K : AV → AH → Prop} {c : Call} {t xt e' : TypeId} {s x : Operand} {y : Value} {l : List Int} {b : Nat} (ho : o.op = .call c) (hg : wantedA o ops T = true) (hc : c.callee = .builtin .append) (hargs : c.args.toList = [s, x]) (ht : c.argTypes.toList = [t, xt]) [hu : TyS t 3] [hux : TyS xt e']
    (hlen : l.length ≤ 2 ^ 30) (hr : H.next < 2 ^ 39) (hsx : av T s = .slc b 0 0 0) (hbn : b < H.next) (hgb : H.get b = some (.cells [] 3 0)) (hx : av T x = .v y) (hy : Sl H (.v y) (ivs l)) (hb0 : H0.next ≤ b) (hk0 : Keeps H0 H)
    (hk : ∀ a H4, Ap H4 a l → (∀ d, a.own = some d → H0.next ≤ d) → Keeps H0 H4 → H4.next ≤ H.next + 1 → H.next ≤ H4.next → K a H4) : WOp (ENV O) ops o T H K := by
  obtain ⟨f1, f2⟩ := first_sl hy
  rw [ivs_length] at f1 f2
  have hz : Zero 3 (.int .i64 0) := inferInstance
  have hs : Cell 3 := inferInstance
  have hb39 : b < 2 ^ 39 := by omega
  refine wop_appendE ho hg hc hargs (arg0 ht) (arg1 ht) hu.u hux.u hz.i hs.s hz.z (by rw [hz.c]; rfl) (Nat.le_of_ble_eq_true hz.b) hlen hr hsx hgb (by rw [hx]; exact f1) (by rw [hx]; exact f2) (ivs_one l) (ivs_length l) (fun h0 => ?_) (fun h0 => ?_)
  · have e : l = [] := List.eq_nil_of_length_eq_zero h0
    subst e
    exact hk _ _ (.inr (.inl ⟨b, rfl, rfl, hbn, hb39, get_set_eq hb39⟩)) (fun d hd => by cases hd; exact hb0) (hk0.set _ hb0 hb39) (Nat.le_succ _) (Nat.le_refl _)
  · exact hk _ _ (.inr (.inr ⟨H.next, rfl, Nat.lt_succ_self _, hr, get_add_eq hr⟩)) (fun d hd => by cases hd; have := hk0.nx; omega) (hk0.add _ hr) (Nat.le_refl _) (Nat.le_succ _)
theorem k_build0 {K : List AV → AH → Prop} {t e : TypeId} {z0 : Value} (h1 : ops.toList[i]? = some o) (ho : o.op = .buildSlice t 0 #[]) (hg : wantedA o ops T = true) [hu : TyS t e] [hs : Cell e] [hz : Zero e z0] (hr : H.next < 2 ^ 39)
    (hk : WK (ENV O) ops H0 π (putA T o.dst (.slc H.next 0 0 0)) (H.add (.cells [] e 0)) K) : WK (ENV O) ops H0 (.alc i :: π) T H K := by
  have hlt : Nat.blt H.next (2 ^ 39) = true := Nat.ble_eq_true_of_le hr
  refine ⟨o, h1, .inr ⟨hg, some (0, 0), [], e, H.add (.cells [] e 0), ?_, ?_, hk⟩⟩
  · unfold laysA; rw [ho]
    simp only [ENV, hu.u, hs.s, hz.z, hz.c]
    rw [if_pos (by decide)]
    simp [fillA]
  · simp only [newA, hlt, if_true]
theorem k_build1 {K : List AV → AH → Prop} {t e : TypeId} {x : Operand} {z0 : Value} (h1 : ops.toList[i]? = some o) (ho : o.op = .buildSlice t 1 #[(0, x)]) (hg : wantedA o ops T = true) [hu : TyS t e] [hs : Cell e] [hz : Zero e z0] (hx : (av T x).one = true) (hr : H.next < 2 ^ 39)
    (hk : WK (ENV O) ops H0 π (putA T o.dst (.slc H.next 0 1 1)) (H.add (.cells [av T x] e 0)) K) : WK (ENV O) ops H0 (.alc i :: π) T H K := by
  have hlt : Nat.blt H.next (2 ^ 39) = true := Nat.ble_eq_true_of_le hr
  refine ⟨o, h1, .inr ⟨hg, some (1, 1), [av T x], e, H.add (.cells [av T x] e 0), ?_, ?_, hk⟩⟩
  · unfold laysA; rw [ho]
    simp only [ENV, hu.u, hs.s, hz.z, hz.c]
    rw [if_pos (by decide)]
    simp [fillA, cells_one hx, wr]
  · simp only [newA, hlt, if_true]
theorem k_build2 {K : List AV → AH → Prop} {t e : TypeId} {x y : Operand} {z0 : Value} (h1 : ops.toList[i]? = some o) (ho : o.op = .buildSlice t 2 #[(0, x), (1, y)]) (hg : wantedA o ops T = true) [hu : TyS t e] [hs : Cell e] [hz : Zero e z0] (hx : (av T x).one = true) (hy : (av T y).one = true) (hr : H.next < 2 ^ 39)
    (hk : WK (ENV O) ops H0 π (putA T o.dst (.slc H.next 0 2 2)) (H.add (.cells [av T x, av T y] e 0)) K) : WK (ENV O) ops H0 (.alc i :: π) T H K := by
  have hlt : Nat.blt H.next (2 ^ 39) = true := Nat.ble_eq_true_of_le hr
  refine ⟨o, h1, .inr ⟨hg, some (2, 2), [av T x, av T y], e, H.add (.cells [av T x, av T y] e 0), ?_, ?_, hk⟩⟩
  · unfold laysA; rw [ho]
    simp only [ENV, hu.u, hs.s, hz.z, hz.c]
    rw [if_pos (by decide)]
    simp [fillA, cells_one hx, cells_one hy, wr]
  · simp only [newA, hlt, if_true]
theorem k_alcSkip {K : List AV → AH → Prop} (h1 : ops.toList[i]? = some o) (hg : wantedA o ops T = false) (hk : WK (ENV O) ops H0 π (putA T o.dst (.v undef)) H K) : WK (ENV O) ops H0 (.alc i :: π) T H K := ⟨o, h1, .inl ⟨hg, hk⟩⟩
theorem WK.mem {K : List AV → AH → Prop} (P : AH → Prop) (h : P H) (hw : ∀ H, P H → WK (ENV O) ops H0 π T H K) : WK (ENV O) ops H0 π T H K := hw H h
theorem k_extract {K : List AV → AH → Prop} {x : Operand} {j : Nat} {vs : List AV} {v : AV} (h1 : ops.toList[i]? = some o) (ho : o.op = .extract x j) (hg : wantedA o ops T = true) (hx : av T x = .tup vs) (hv : vs[j]? = some v) (hk : WK (ENV O) ops H0 π (putA T o.dst v) H K) : WK (ENV O) ops H0 (.mob i :: π) T H K := by
  refine k_mob h1 hg (r := v) ?_ (fun b hb => by rw [rdA_none (by unfold looksB; rw [ho])] at hb; cases hb) hk
  unfold mobEval
  rw [ho]
  simp only [hx, hv]
theorem o_nilEq {K : AV → AH → Prop} {t yt : TypeId} {x : Operand} {a : Option Addr} {n cap : Nat} (ho : o.op = .binOp .eql t x (.const (.slice none 0 0)) yt) (hg : wantedA o ops T = true) (ht : t = 22) (hx : av T x = .v (.slice a n cap)) (hk : K (.v (.bool a.isNone)) H) : WOp (ENV O) ops o T H K := by
  subst ht
  refine wop_val (by rw [ho]; rfl) hg (r := .v (.bool a.isNone)) ?_ (Nat.le_refl _) hk
  unfold opEval; rw [ho]
  have hc : av T (.const (.slice none 0 0)) = .v (.slice none 0 0) := rfl
  have h0 : nilEqA Tryz.prog 22 (.v (.slice a n cap)) (.v (.slice none 0 0)) = false := by rfl
  simp only [ENV, oBin, oBinSlow, hx, hc, h0]
  unfold plainOp
  have h2 : runPure Tryz.prog (execOp (fun x => ((av T x).plain).getD undef) o) = some (.value (.bool a.isNone)) := by
    obtain ⟨dst, op', type, pos, after, guard⟩ := o
    simp only at ho
    subst ho
    cases a with
    | none => simp only [execOp, eqGuard, hx, hc, AV.plain, Option.getD_some]; kernel_rfl
    | some a => simp only [execOp, eqGuard, hx, hc, AV.plain, Option.getD_some]; kernel_rfl
  rw [h2, ho]
  simp [Op.operands, hx, hc, AV.plain]
end
theorem nodup_len {N : Nat} {l : List Int} (h : InR N l) (hd : l.Nodup) : l.length ≤ N := by
  have h1 : (l.map Int.toNat).Nodup := by
    rw [List.nodup_iff_pairwise_ne, List.pairwise_map]
    refine (List.nodup_iff_pairwise_ne.1 hd).imp_of_mem fun ha hb hne e => hne ?_
    have := h _ ha; have := h _ hb; omega
  have h2 : (l.map Int.toNat) ⊆ List.range N := fun y hy => by
    obtain ⟨z, hz, rfl⟩ := List.mem_map.1 hy
    have := h z hz
    exact List.mem_range.2 (by omega)
  have := h1.length_le_of_subset h2
  simpa using this
theorem Six.sub {m : Mc} {l l' : List Int} {n : Nat} (h : Six m l n) (hr : InR (4 * n) l') (hd : l'.Nodup) (hl : l'.length ≤ 20) : Six m l' n :=
  { h with hll := hl, hle := nodup_len hr hd, hl := hr, hd := hd }
theorem Six.snoc {m : Mc} {l : List Int} {n : Nat} {s : Int} (h : Six m l n) (hs : 0 ≤ s ∧ s < ((4 * n : Nat) : Int)) (hn : s ∉ l) (hl : l.length ≤ 19) : Six m (l ++ [s]) n := by
  refine h.sub (fun z hz => ?_) ?_ (by simp; omega)
  · rcases List.mem_append.1 hz with hz | hz
    · exact h.hl z hz
    · rw [List.mem_singleton.1 hz]; exact hs
  · rw [List.nodup_append]
    exact ⟨h.hd, by simp, fun a ha b hb e => hn (by rw [List.mem_singleton.1 hb] at e; rw [← e]; exact ha)⟩
theorem bndF {a b c i : Nat} (h1 : a ≤ b + 900000) (h2 : b ≤ c + 1000000 + i * 1000000) : a ≤ c + 1000000 + (i + 1) * 1000000 := by omega
variable {O : CallF} (hq : Quiet O)
include hq
theorem cClone (H : AH) (y : Value) (l : List Int) (hy : Sl H (.v y) (ivs l)) (hl : l.length ≤ 1000) (hr : H.next + 10 < 2 ^ 39)
    (K : AV → AH → Prop) (hk : ∀ H' r, Keeps H H' → H'.next ≤ H.next + 2 → Ap H' r l → (∀ b, r.own = some b → H.next ≤ b) → K r H') : Ca (ENV O) 53 [.v y] H K := by
  refine ca_intro (hq _ _ _ rfl) (fn := Tryz.f53) (by rfl) rfl ?_
  obtain ⟨a, n, c, rfl⟩ : ∃ a n c, y = .slice a n c := by
    cases y with
    | slice a n c => exact ⟨a, n, c, rfl⟩
    | _ => exact hy.elim
  repeat (first | refine wops_nil ?_ | refine zq2 rfl rfl ?_ | refine zq3 rfl rfl ?_ | refine wp_condT rfl ?_ | refine wp_condF rfl ?_ | refine wp_region ?_ | refine wp_seq ?_ | refine wp_skip ?_)
  refine wops_cons (o_nilEq rfl rfl rfl rfl ?_)
  repeat (first | refine wops_nil ?_ | refine zq2 rfl rfl ?_ | refine zq3 rfl rfl ?_ | refine wp_condT rfl ?_ | refine wp_condF rfl ?_ | refine wp_region ?_ | refine wp_seq ?_ | refine wp_skip ?_)
  cases a with
  | none =>
    have hl0 : l = [] := by
      rcases hy.2 with h | ⟨b, off, vs, h, _⟩
      · cases l with
        | nil => rfl
        | cons z l => simp [ivs] at h
      · cases h
    repeat (first | refine wops_nil ?_ | refine zq2 rfl rfl ?_ | refine zq3 rfl rfl ?_ | refine wp_condT rfl ?_ | refine wp_condF rfl ?_ | refine wp_region ?_ | refine wp_seq ?_ | refine wp_skip ?_)
    refine wp_ret ?_
    exact ⟨_, _, rfl, hk H _ (Keeps.refl H) (by omega) (.inl ⟨rfl, hl0⟩) (fun b hb => by cases hb)⟩
  | some a =>
    repeat (first | refine wops_nil ?_ | refine zq2 rfl rfl ?_ | refine zq3 rfl rfl ?_ | refine wp_condT rfl ?_ | refine wp_condF rfl ?_ | refine wp_region ?_ | refine wp_seq ?_ | refine wp_skip ?_)
    have r0 : H.next < 2 ^ 39 := by omega
    refine wops_cons (o_build0 rfl rfl r0 ?_)
    have k1 := (Keeps.refl H).add (.cells [] 3 0) r0
    have g1 : (H.add (.cells [] 3 0)).get H.next = some (.cells [] 3 0) := get_add_eq r0
    have n1 : (H.add (.cells [] 3 0)).next = H.next + 1 := rfl
    generalize H.add (.cells [] 3 0) = H1 at k1 g1 n1 ⊢
    repeat (first | refine wops_nil ?_ | refine zq2 rfl rfl ?_ | refine zq3 rfl rfl ?_ | refine wp_condT rfl ?_ | refine wp_condF rfl ?_ | refine wp_region ?_ | refine wp_seq ?_ | refine wp_skip ?_)
    refine wops_cons (o_appendA (H0 := H) (l := l) rfl rfl rfl rfl rfl (by omega) (by omega) rfl (by omega) g1 rfl (hy.keep (Old.v _) k1) (Nat.le_refl _) k1 fun r H2 hA hn k2 n2 _ => ?_)
    repeat (first | refine wops_nil ?_ | refine zq2 rfl rfl ?_ | refine zq3 rfl rfl ?_ | refine wp_condT rfl ?_ | refine wp_condF rfl ?_ | refine wp_region ?_ | refine wp_seq ?_ | refine wp_skip ?_)
    refine wp_ret ?_
    exact ⟨_, _, rfl, hk H2 r k2 (by omega) hA hn⟩
theorem cFree (H : AH) (a x : AV) (yv : Value) (m : Mc) (l : List Int) (n : Nat) (ha : a.cells = mc m x) (hx : Sl H x (ivs m.sw)) (ho : Old H x) (hy : Sl H (.v yv) (ivs l)) (hcap : CapOk (.v yv)) (h6 : Six m l n) (hl10 : l.length ≤ 10) (hnev : never m l n) (hr : H.next + 200000000 < 2 ^ 39)
    (K : AV → AH → Prop) (hk : ∀ H' r fr, Keeps H H' → H'.next ≤ H.next + 100000000 → Gr H' 3 r (ivs fr) → (∀ s ∈ fr, (0 ≤ s ∧ s < ((4 * n : Nat) : Int)) ∧ s ∉ l ∧ never m (l ++ [s]) n) → fr.length ≤ 100 → K (.tup [r, iv 0]) H') : Ca (ENV O) 22 [a, .v yv] H K := by
  refine ca_intro (hq _ _ _ rfl) (fn := Tryz.f22) (by rfl) rfl ?_
  have hg := h6.hg
  have hn6 := h6.hn
  have hsw := h6.hsw
  have hoy : Old H (.v yv) := Old.v _
  have hky : Ky H (.v yv) l := ⟨hy, hoy, hcap, fun b hb => by cases hb⟩
  repeat (first | refine wops_nil ?_ | refine zq1 rfl rfl ?_ | refine zq2 rfl rfl ?_ | refine zq3 rfl rfl ?_ | refine zq4 rfl rfl rfl rfl (inc (by omega)) ?_ | refine zqa rfl rfl rfl ?_ | refine zq6 rfl rfl (by assumption) ?_ | refine zqb rfl rfl rfl (by assumption) ?_ | refine zq7 rfl rfl rfl ?_ | refine zq8 rfl rfl rfl ?_ | refine wp_condT rfl ?_ | refine wp_condF rfl ?_ | refine wp_region ?_ | refine wp_seq ?_ | refine wp_skip ?_ | refine wp_exit ?_ | refine wp_block ?_)
  refine wops_cons (o_boxM rfl rfl ha (by omega) fun H1 n1 k1 b1 => ?_)
  repeat (first | refine wops_nil ?_ | refine zq1 rfl rfl ?_ | refine zq2 rfl rfl ?_ | refine zq3 rfl rfl ?_ | refine zq4 rfl rfl rfl rfl (inc (by omega)) ?_ | refine zqa rfl rfl rfl ?_ | refine zq6 rfl rfl (by assumption) ?_ | refine zqb rfl rfl rfl (by assumption) ?_ | refine zq7 rfl rfl rfl ?_ | refine zq8 rfl rfl rfl ?_ | refine wp_condT rfl ?_ | refine wp_condF rfl ?_ | refine wp_region ?_ | refine wp_seq ?_ | refine wp_skip ?_ | refine wp_exit ?_ | refine wp_block ?_)
  refine wops_cons (wop_callF rfl rfl rfl (fn := Tryz.f23) (by rfl) ?_)
  have hy1 := hky.keep k1
  refine c35 hq H1 _ x (.v yv) m l n 240 rfl (hx.keep ho k1) (ho.keep k1) hy1.sl hy1.old hy1.cap hy1.lk h6.good (by omega) _ (fun H2 k p k2 n2 f1 => (mtF_not f1 (hnev _)).elim) (fun H2 k2 n2 f1 => ⟨k2.nx, ?_⟩)
  have k02 := k1.trans k2
  have b2 := b1.keep (by omega) k2
  have hp1 := b2.p1
  rw [hg] at hp1
  repeat (first | refine wops_nil ?_ | refine zq1 rfl rfl ?_ | refine zq2 rfl rfl ?_ | refine zq3 rfl rfl ?_ | refine zq4 rfl rfl rfl rfl (inc (by omega)) ?_ | refine zqa rfl rfl rfl ?_ | refine zq6 rfl rfl (by assumption) ?_ | refine zqb rfl rfl rfl (by assumption) ?_ | refine zq7 rfl rfl rfl ?_ | refine zq8 rfl rfl rfl ?_ | refine wp_condT rfl ?_ | refine wp_condF rfl ?_ | refine wp_region ?_ | refine wp_seq ?_ | refine wp_skip ?_ | refine wp_exit ?_ | refine wp_block ?_)
  refine wops_cons (wop_bin (op := .neq) (v := .bool false) rfl rfl rfl rfl rfl ?_)
  repeat (first | refine wops_nil ?_ | refine zq1 rfl rfl ?_ | refine zq2 rfl rfl ?_ | refine zq3 rfl rfl ?_ | refine zq4 rfl rfl rfl rfl (inc (by omega)) ?_ | refine zqa rfl rfl rfl ?_ | refine zq6 rfl rfl (by assumption) ?_ | refine zqb rfl rfl rfl (by assumption) ?_ | refine zq7 rfl rfl rfl ?_ | refine zq8 rfl rfl rfl ?_ | refine wp_condT rfl ?_ | refine wp_condF rfl ?_ | refine wp_region ?_ | refine wp_seq ?_ | refine wp_skip ?_ | refine wp_exit ?_ | refine wp_block ?_)
  refine wops_cons (wop_bin (op := .mul) (v := .int .i64 ((4 * n : Nat) : Int)) rfl rfl rfl rfl ?_ ?_)
  · rw [mul4 (by omega)]; congr 2
  clear hp1
  repeat (first | refine wops_nil ?_ | refine zq1 rfl rfl ?_ | refine zq2 rfl rfl ?_ | refine zq3 rfl rfl ?_ | refine zq4 rfl rfl rfl rfl (inc (by omega)) ?_ | refine zqa rfl rfl rfl ?_ | refine zq6 rfl rfl (by assumption) ?_ | refine zqb rfl rfl rfl (by assumption) ?_ | refine zq7 rfl rfl rfl ?_ | refine zq8 rfl rfl rfl ?_ | refine wp_condT rfl ?_ | refine wp_condF rfl ?_ | refine wp_region ?_ | refine wp_seq ?_ | refine wp_skip ?_ | refine wp_exit ?_ | refine wp_block ?_)
  refine wp_loop (fun q T M H' => ∃ (i : Nat) (Y : List AV) (r : AV) (fr : List Int), q = 4 * n - i ∧ i ≤ 4 * n ∧ Keeps H H' ∧ H.next < H'.next ∧ H'.next ≤ H.next + 1000000 + i * 1000000 ∧ Bx H' H.next 24 m x ∧ Gr H' 3 r (ivs fr) ∧ (∀ b, r.own = some b → H.next < b) ∧ (∀ s ∈ fr, (0 ≤ s ∧ s < ((4 * n : Nat) : Int)) ∧ s ∉ l ∧ never m (l ++ [s]) n) ∧ fr.length ≤ i ∧ M = [] ∧ T = (lget Y 0 :: .v yv :: .ptr H.next 0 :: lget Y 1 :: lget Y 2 :: lget Y 3 :: lget Y 4 :: r :: lget Y 5 :: lget Y 6 :: lget Y 7 :: lget Y 8 :: lget Y 9 :: lget Y 10 :: lget Y 11 :: lget Y 12 :: lget Y 13 :: iv (4 * n : Nat) :: iv (i : Nat) :: lget Y 14 :: lget Y 15 :: lget Y 16 :: lget Y 17 :: lget Y 18 :: lget Y 19 :: lget Y 20 :: lget Y 21 :: lget Y 22 :: lget Y 23 :: lget Y 24 :: lget Y 25 :: lget Y 26 :: lget Y 27 :: lget Y 28 :: lget Y 29 :: lget Y 30 :: lget Y 31 :: lget Y 32 :: lget Y 33 :: lget Y 34 :: [])) (4 * n)
    ⟨0, [_,_,_,_,_,_,_,_,_,_,_,_,_,_,_,_,_,_,_,_,_,_,_,_,_,_,_,_,_,_,_,_,_,_,_], .v (.slice none 0 0), [], rfl, Nat.zero_le _, k02, by have := k2.nx; omega, by omega, b2, .inl ⟨rfl, rfl⟩, (fun b hb => by cases hb), (fun s hs => by simp at hs), Nat.le_refl _, rfl, rfl⟩ ?_
  rintro q T M H4 ⟨i, Y, r, fr, hq1, hi, k4, h4n, n4, b4, hG, hro, hfr, hfl, rfl, rfl⟩
  have hy4 := hky.keep k4
  have hB4 : ∀ b, (AV.ptr H.next 0).own = some b → Lk H4 b := b4.lk h4n (hx.keep ho k4)
  repeat (first | refine wops_nil ?_ | refine zq1 rfl rfl ?_ | refine zq2 rfl rfl ?_ | refine zq3 rfl rfl ?_ | refine zq4 rfl rfl rfl rfl (inc (by omega)) ?_ | refine zqa rfl rfl rfl ?_ | refine zq6 rfl rfl (by assumption) ?_ | refine zqb rfl rfl rfl (by assumption) ?_ | refine zq7 rfl rfl rfl ?_ | refine zq8 rfl rfl rfl ?_ | refine wp_condT rfl ?_ | refine wp_condF rfl ?_ | refine wp_region ?_ | refine wp_seq ?_ | refine wp_skip ?_ | refine wp_exit ?_ | refine wp_block ?_)
  refine wops_cons (wop_cmp rfl rfl rfl rfl rfl (fun h => ?_) (fun h => ?_))
  rotate_left
  · have h : ¬ ((i : Int) < (4 * n : Nat)) := of_decide_eq_false h
    repeat (first | refine wops_nil ?_ | refine zq1 rfl rfl ?_ | refine zq2 rfl rfl ?_ | refine zq3 rfl rfl ?_ | refine zq4 rfl rfl rfl rfl (inc (by omega)) ?_ | refine zqa rfl rfl rfl ?_ | refine zq6 rfl rfl (by assumption) ?_ | refine zqb rfl rfl rfl (by assumption) ?_ | refine zq7 rfl rfl rfl ?_ | refine zq8 rfl rfl rfl ?_ | refine wp_condT rfl ?_ | refine wp_condF rfl ?_ | refine wp_region ?_ | refine wp_seq ?_ | refine wp_skip ?_ | refine wp_exit ?_ | refine wp_block ?_)
    refine wp_ret ?_
    exact ⟨_, _, rfl, hk H4 r fr k4 (by omega) hG hfr (by omega)⟩
  have h : (i : Int) < (4 * n : Nat) := of_decide_eq_true h
  have hsb : 0 ≤ (i : Int) ∧ (i : Int) < ((4 * n : Nat) : Int) := ⟨by omega, h⟩
  clear h
  repeat (first | refine wops_nil ?_ | refine zq1 rfl rfl ?_ | refine zq2 rfl rfl ?_ | refine zq3 rfl rfl ?_ | refine zq4 rfl rfl rfl rfl (inc (by omega)) ?_ | refine zqa rfl rfl rfl ?_ | refine zq6 rfl rfl (by assumption) ?_ | refine zqb rfl rfl rfl (by assumption) ?_ | refine zq7 rfl rfl rfl ?_ | refine zq8 rfl rfl rfl ?_ | refine wp_condT rfl ?_ | refine wp_condF rfl ?_ | refine wp_region ?_ | refine wp_seq ?_ | refine wp_skip ?_ | refine wp_exit ?_ | refine wp_block ?_)
  refine Wp.mono (Q := fun x' T' M' H' => x' = .normal ∧ M' = [] ∧ Keeps H4 H' ∧ H'.next ≤ H4.next + 900000 ∧ ∃ (Y : List AV) (c : Bool), T' = (lget Y 0 :: .v yv :: .ptr H.next 0 :: lget Y 1 :: lget Y 2 :: lget Y 3 :: lget Y 4 :: r :: iv (i : Nat) :: lget Y 5 :: lget Y 6 :: lget Y 7 :: lget Y 8 :: lget Y 9 :: lget Y 10 :: lget Y 11 :: lget Y 12 :: iv (4 * n : Nat) :: iv (i : Nat) :: lget Y 13 :: lget Y 14 :: lget Y 15 :: lget Y 16 :: lget Y 17 :: lget Y 18 :: lget Y 19 :: lget Y 20 :: lget Y 21 :: lget Y 22 :: lget Y 23 :: lget Y 24 :: lget Y 25 :: lget Y 26 :: .v (.bool c) :: lget Y 27 :: lget Y 28 :: lget Y 29 :: lget Y 30 :: lget Y 31 :: lget Y 32 :: []) ∧ (c = true → (i : Int) ∉ l ∧ never m (l ++ [(i : Int)]) n)) (wp_drawK rfl ?_) ?_
  · repeat (first | refine wops_nil ?_ | refine zq1 rfl rfl ?_ | refine zq2 rfl rfl ?_ | refine zq3 rfl rfl ?_ | refine zq4 rfl rfl rfl rfl (inc (by omega)) ?_ | refine zqa rfl rfl rfl ?_ | refine zq6 rfl rfl (by assumption) ?_ | refine zqb rfl rfl rfl (by assumption) ?_ | refine zq7 rfl rfl rfl ?_ | refine zq8 rfl rfl rfl ?_ | refine k_nil ?_ | refine k_skip rfl rfl ?_ | refine k_move rfl rfl rfl ?_ | refine k_assign rfl rfl rfl ?_ | refine k_pick rfl rfl rfl rfl ?_ | refine k_field rfl rfl rfl rfl ?_ | refine k_load rfl rfl rfl (by assumption) (by assumption) ?_ | refine k_load4 rfl rfl rfl rfl (by assumption) (by assumption) ?_ | refine k_lenI rfl rfl rfl rfl rfl rfl (by assumption) ?_ | refine wp_condT rfl ?_ | refine wp_condF rfl ?_ | refine wp_region ?_ | refine wp_seq ?_ | refine wp_skip ?_ | refine wp_exit ?_ | refine wp_block ?_)
    refine k_call rfl rfl rfl (fun b h => by cases h) (wop_callF rfl rfl rfl (fn := Tryz.f51) (by rfl) ?_)
    refine c85 hq H4 (.v yv) l i hy4.sl (by omega) _ ⟨Nat.le_refl _, Keeps.refl _, ?_⟩
    by_cases hin : (i : Int) ∈ l
    · rw [decide_eq_true hin]
      refine k_not rfl rfl rfl rfl ?_
      repeat (first | refine wops_nil ?_ | refine zq1 rfl rfl ?_ | refine zq2 rfl rfl ?_ | refine zq3 rfl rfl ?_ | refine zq4 rfl rfl rfl rfl (inc (by omega)) ?_ | refine zqa rfl rfl rfl ?_ | refine zq6 rfl rfl (by assumption) ?_ | refine zqb rfl rfl rfl (by assumption) ?_ | refine zq7 rfl rfl rfl ?_ | refine zq8 rfl rfl rfl ?_ | refine k_nil ?_ | refine k_skip rfl rfl ?_ | refine k_move rfl rfl rfl ?_ | refine k_assign rfl rfl rfl ?_ | refine k_pick rfl rfl rfl rfl ?_ | refine k_field rfl rfl rfl rfl ?_ | refine k_load rfl rfl rfl (by assumption) (by assumption) ?_ | refine k_load4 rfl rfl rfl rfl (by assumption) (by assumption) ?_ | refine k_lenI rfl rfl rfl rfl rfl rfl (by assumption) ?_ | refine wp_condT rfl ?_ | refine wp_condF rfl ?_ | refine wp_region ?_ | refine wp_seq ?_ | refine wp_skip ?_ | refine wp_exit ?_ | refine wp_block ?_)
      refine k_loudSkip rfl rfl (Keeps.refl _) ?_
      refine k_alcSkip rfl rfl ?_
      refine k_loudSkip rfl rfl (Keeps.refl _) ?_
      refine k_loudSkip rfl rfl (Keeps.refl _) ?_
      repeat (first | refine wops_nil ?_ | refine zq1 rfl rfl ?_ | refine zq2 rfl rfl ?_ | refine zq3 rfl rfl ?_ | refine zq4 rfl rfl rfl rfl (inc (by omega)) ?_ | refine zqa rfl rfl rfl ?_ | refine zq6 rfl rfl (by assumption) ?_ | refine zqb rfl rfl rfl (by assumption) ?_ | refine zq7 rfl rfl rfl ?_ | refine zq8 rfl rfl rfl ?_ | refine k_nil ?_ | refine k_skip rfl rfl ?_ | refine k_move rfl rfl rfl ?_ | refine k_assign rfl rfl rfl ?_ | refine k_pick rfl rfl rfl rfl ?_ | refine k_field rfl rfl rfl rfl ?_ | refine k_load rfl rfl rfl (by assumption) (by assumption) ?_ | refine k_load4 rfl rfl rfl rfl (by assumption) (by assumption) ?_ | refine k_lenI rfl rfl rfl rfl rfl rfl (by assumption) ?_ | refine wp_condT rfl ?_ | refine wp_condF rfl ?_ | refine wp_region ?_ | refine wp_seq ?_ | refine wp_skip ?_ | refine wp_exit ?_ | refine wp_block ?_)
      exact ⟨rfl, rfl, Keeps.refl _, by omega, [_,_,_,_,_,_,_,_,_,_,_,_,_,_,_,_,_,_,_,_,_,_,_,_,_,_,_,_,_,_,_,_,_], false, rfl, fun h => by cases h⟩
    rw [decide_eq_false hin]
    refine k_not rfl rfl rfl rfl ?_
    repeat (first | refine wops_nil ?_ | refine zq1 rfl rfl ?_ | refine zq2 rfl rfl ?_ | refine zq3 rfl rfl ?_ | refine zq4 rfl rfl rfl rfl (inc (by omega)) ?_ | refine zqa rfl rfl rfl ?_ | refine zq6 rfl rfl (by assumption) ?_ | refine zqb rfl rfl rfl (by assumption) ?_ | refine zq7 rfl rfl rfl ?_ | refine zq8 rfl rfl rfl ?_ | refine k_nil ?_ | refine k_skip rfl rfl ?_ | refine k_move rfl rfl rfl ?_ | refine k_assign rfl rfl rfl ?_ | refine k_pick rfl rfl rfl rfl ?_ | refine k_field rfl rfl rfl rfl ?_ | refine k_load rfl rfl rfl (by assumption) (by assumption) ?_ | refine k_load4 rfl rfl rfl rfl (by assumption) (by assumption) ?_ | refine k_lenI rfl rfl rfl rfl rfl rfl (by assumption) ?_ | refine wp_condT rfl ?_ | refine wp_condF rfl ?_ | refine wp_region ?_ | refine wp_seq ?_ | refine wp_skip ?_ | refine wp_exit ?_ | refine wp_block ?_)
    refine k_call rfl rfl rfl (fun b h => by cases h) (wop_callF rfl rfl rfl (fn := Tryz.f53) (by rfl) ?_)
    refine cClone hq H4 yv l hy4.sl (by omega) (by omega) _ fun H5 r5 k5 n5 hA5 hn5 => ⟨k5.nx, k5, ?_⟩
    have r39 : H5.next < 2 ^ 39 := by omega
    refine k_build1 rfl rfl rfl rfl r39 ?_
    refine WK.mem (fun H6 => Keeps H4 H6 ∧ H6.next = H5.next + 1 ∧ Ap H6 r5 l ∧ H6.get H5.next = some (.cells [iv (i : Int)] 3 0)) ⟨k5.add _ r39, rfl, hA5.keep ((Keeps.refl H5).add _ r39), get_add_eq r39⟩ ?_
    rintro H6 ⟨k6, n6, hA6, g6⟩
    refine k_loud rfl rfl (o_append1A (H0 := H4) (l := l) (z := (i : Int)) rfl rfl rfl rfl rfl (by omega) (by omega) rfl g6 hA6 hn5 k6 fun r7 H7 hA7 _ k7 n7 _ => ⟨k7, ?_⟩)
    have h6s := h6.snoc hsb hin (by omega)
    have hky7 := hA7.ky
    refine k_call rfl rfl rfl (fun b h => by cases h) (wop_callF rfl rfl rfl (fn := Tryz.f52) (by rfl) ?_)
    have k47 := k4.trans k7
    refine c89 hq H7 _ x r7 m (l ++ [(i : Int)]) n 240 rfl (hx.keep ho k47) (ho.keep k47) hky7.sl hky7.old hky7.lk h6s.good (by omega) _ (fun H8 k p k8 n8 f1 => ⟨k8.nx, k7.trans k8, ?_⟩) (fun H8 k8 n8 f1 => ⟨k8.nx, k7.trans k8, ?_⟩)
    · repeat (first | refine wops_nil ?_ | refine zq1 rfl rfl ?_ | refine zq2 rfl rfl ?_ | refine zq3 rfl rfl ?_ | refine zq4 rfl rfl rfl rfl (inc (by omega)) ?_ | refine zqa rfl rfl rfl ?_ | refine zq6 rfl rfl (by assumption) ?_ | refine zqb rfl rfl rfl (by assumption) ?_ | refine zq7 rfl rfl rfl ?_ | refine zq8 rfl rfl rfl ?_ | refine k_nil ?_ | refine k_skip rfl rfl ?_ | refine k_move rfl rfl rfl ?_ | refine k_assign rfl rfl rfl ?_ | refine k_pick rfl rfl rfl rfl ?_ | refine k_field rfl rfl rfl rfl ?_ | refine k_load rfl rfl rfl (by assumption) (by assumption) ?_ | refine k_load4 rfl rfl rfl rfl (by assumption) (by assumption) ?_ | refine k_lenI rfl rfl rfl rfl rfl rfl (by assumption) ?_ | refine wp_condT rfl ?_ | refine wp_condF rfl ?_ | refine wp_region ?_ | refine wp_seq ?_ | refine wp_skip ?_ | refine wp_exit ?_ | refine wp_block ?_)
      exact ⟨rfl, rfl, k7.trans k8, by omega, [_,_,_,_,_,_,_,_,_,_,_,_,_,_,_,_,_,_,_,_,_,_,_,_,_,_,_,_,_,_,_,_,_], false, rfl, fun h => by cases h⟩
    · repeat (first | refine wops_nil ?_ | refine zq1 rfl rfl ?_ | refine zq2 rfl rfl ?_ | refine zq3 rfl rfl ?_ | refine zq4 rfl rfl rfl rfl (inc (by omega)) ?_ | refine zqa rfl rfl rfl ?_ | refine zq6 rfl rfl (by assumption) ?_ | refine zqb rfl rfl rfl (by assumption) ?_ | refine zq7 rfl rfl rfl ?_ | refine zq8 rfl rfl rfl ?_ | refine k_nil ?_ | refine k_skip rfl rfl ?_ | refine k_move rfl rfl rfl ?_ | refine k_assign rfl rfl rfl ?_ | refine k_pick rfl rfl rfl rfl ?_ | refine k_field rfl rfl rfl rfl ?_ | refine k_load rfl rfl rfl (by assumption) (by assumption) ?_ | refine k_load4 rfl rfl rfl rfl (by assumption) (by assumption) ?_ | refine k_lenI rfl rfl rfl rfl rfl rfl (by assumption) ?_ | refine wp_condT rfl ?_ | refine wp_condF rfl ?_ | refine wp_region ?_ | refine wp_seq ?_ | refine wp_skip ?_ | refine wp_exit ?_ | refine wp_block ?_)
      exact ⟨rfl, rfl, k7.trans k8, by omega, [_,_,_,_,_,_,_,_,_,_,_,_,_,_,_,_,_,_,_,_,_,_,_,_,_,_,_,_,_,_,_,_,_], true, rfl, fun _ => ⟨hin, f1⟩⟩
  rintro x' T' M' H5 ⟨rfl, rfl, k5, n5, Y2, c, rfl, hc⟩
  have k05 := k4.trans k5
  have h5n := k5.nx
  have hb5 : H5.next ≤ H.next + 1000000 + (i + 1) * 1000000 := bndF n5 n4
  have hb6 : H.next < H5.next := Nat.lt_of_lt_of_le h4n h5n
  have b5 := b4.keep h4n k5
  have hG5 := hG.frame k5.nx fun b hb => k5.get b (hG.old b hb)
  repeat (first | refine wops_nil ?_ | refine zq1 rfl rfl ?_ | refine zq2 rfl rfl ?_ | refine zq3 rfl rfl ?_ | refine zq4 rfl rfl rfl rfl (inc (by omega)) ?_ | refine zqa rfl rfl rfl ?_ | refine zq6 rfl rfl (by assumption) ?_ | refine zqb rfl rfl rfl (by assumption) ?_ | refine zq7 rfl rfl rfl ?_ | refine zq8 rfl rfl rfl ?_ | refine k_nil ?_ | refine k_skip rfl rfl ?_ | refine k_move rfl rfl rfl ?_ | refine k_assign rfl rfl rfl ?_ | refine k_pick rfl rfl rfl rfl ?_ | refine k_field rfl rfl rfl rfl ?_ | refine k_load rfl rfl rfl (by assumption) (by assumption) ?_ | refine k_load4 rfl rfl rfl rfl (by assumption) (by assumption) ?_ | refine k_lenI rfl rfl rfl rfl rfl rfl (by assumption) ?_ | refine wp_condT rfl ?_ | refine wp_condF rfl ?_ | refine wp_region ?_ | refine wp_seq ?_ | refine wp_skip ?_ | refine wp_exit ?_ | refine wp_block ?_)
  refine wp_cond rfl (fun h => ?_) (fun h => ?_)
  · obtain ⟨hc1, hc2⟩ := hc h
    have r5 : H5.next < 2 ^ 39 := by omega
    repeat (first | refine wops_nil ?_ | refine zq1 rfl rfl ?_ | refine zq2 rfl rfl ?_ | refine zq3 rfl rfl ?_ | refine zq4 rfl rfl rfl rfl (inc (by omega)) ?_ | refine zqa rfl rfl rfl ?_ | refine zq6 rfl rfl (by assumption) ?_ | refine zqb rfl rfl rfl (by assumption) ?_ | refine zq7 rfl rfl rfl ?_ | refine zq8 rfl rfl rfl ?_ | refine k_nil ?_ | refine k_skip rfl rfl ?_ | refine k_move rfl rfl rfl ?_ | refine k_assign rfl rfl rfl ?_ | refine k_pick rfl rfl rfl rfl ?_ | refine k_field rfl rfl rfl rfl ?_ | refine k_load rfl rfl rfl (by assumption) (by assumption) ?_ | refine k_load4 rfl rfl rfl rfl (by assumption) (by assumption) ?_ | refine k_lenI rfl rfl rfl rfl rfl rfl (by assumption) ?_ | refine wp_condT rfl ?_ | refine wp_condF rfl ?_ | refine wp_region ?_ | refine wp_seq ?_ | refine wp_skip ?_ | refine wp_exit ?_ | refine wp_block ?_)
    refine wops_cons (o_build1 rfl rfl rfl r5 ?_)
    have k6 := (Keeps.refl H5).add (.cells [iv (i : Int)] 3 0) r5
    have g6 : (H5.add (.cells [iv (i : Int)] 3 0)).get H5.next = some (.cells [iv (i : Int)] 3 0) := get_add_eq r5
    have n6 : (H5.add (.cells [iv (i : Int)] 3 0)).next = H5.next + 1 := rfl
    have hG6 := hG5.frame k6.nx fun b hb => k6.get b (hG5.old b hb)
    refine WOps.mem (fun H6 => Keeps H5 H6 ∧ H6.next = H5.next + 1 ∧ Gr H6 3 r (ivs fr) ∧ H6.get H5.next = some (.cells [iv (i : Int)] 3 0)) ⟨k6, n6, hG6, g6⟩ ?_
    clear k6 g6 n6 hG6
    rintro H6 ⟨k6, n6, hG6, g6⟩
    refine wops_cons (o_append (cs := ivs fr) (v := iv (i : Int)) rfl rfl rfl rfl rfl (by rw [ivs_length]; omega) (by omega) rfl g6 rfl hG6 fun r7 H7 e7 n7 gl7 g7 g7' hG7 => ?_)
    have k56 := k05.trans k6
    repeat (first | refine wops_nil ?_ | refine zq1 rfl rfl ?_ | refine zq2 rfl rfl ?_ | refine zq3 rfl rfl ?_ | refine zq4 rfl rfl rfl rfl (inc (by omega)) ?_ | refine zqa rfl rfl rfl ?_ | refine zq6 rfl rfl (by assumption) ?_ | refine zqb rfl rfl rfl (by assumption) ?_ | refine zq7 rfl rfl rfl ?_ | refine zq8 rfl rfl rfl ?_ | refine k_nil ?_ | refine k_skip rfl rfl ?_ | refine k_move rfl rfl rfl ?_ | refine k_assign rfl rfl rfl ?_ | refine k_pick rfl rfl rfl rfl ?_ | refine k_field rfl rfl rfl rfl ?_ | refine k_load rfl rfl rfl (by assumption) (by assumption) ?_ | refine k_load4 rfl rfl rfl rfl (by assumption) (by assumption) ?_ | refine k_lenI rfl rfl rfl rfl rfl rfl (by assumption) ?_ | refine wp_condT rfl ?_ | refine wp_condF rfl ?_ | refine wp_region ?_ | refine wp_seq ?_ | refine wp_skip ?_ | refine wp_exit ?_ | refine wp_block ?_)
    refine ⟨4 * n - (i + 1), by omega, i + 1, [_,_,_,_,_,_,_,_,_,_,_,_,_,_,_,_,_,_,_,_,_,_,_,_,_,_,_,_,_,_,_,_,_,_,_], r7, fr ++ [(i : Int)], rfl, by omega, ⟨by omega, gl7.trans k56.gl, fun b hb => ?_⟩, by omega, by omega, ⟨b5.lt, ?_⟩, by rw [ivs_snoc]; exact hG7, fun b hb => ?_, fun s hs => ?_, by rw [List.length_append, List.length_singleton]; omega, rfl, rfl⟩
    · rw [g7 b (by omega) (fun e => by have := hro b e; omega)]; exact k56.get b hb
    · rw [g7 H.next (by omega) (fun e => by have := hro _ e; omega)]
      exact (k6.get _ (by omega)).trans b5.g
    · rw [e7] at hb; cases hb; omega
    · rcases List.mem_append.1 hs with hs | hs
      · exact hfr s hs
      · rw [List.mem_singleton.1 hs]; exact ⟨hsb, hc1, hc2⟩
  · repeat (first | refine wops_nil ?_ | refine zq1 rfl rfl ?_ | refine zq2 rfl rfl ?_ | refine zq3 rfl rfl ?_ | refine zq4 rfl rfl rfl rfl (inc (by omega)) ?_ | refine zqa rfl rfl rfl ?_ | refine zq6 rfl rfl (by assumption) ?_ | refine zqb rfl rfl rfl (by assumption) ?_ | refine zq7 rfl rfl rfl ?_ | refine zq8 rfl rfl rfl ?_ | refine k_nil ?_ | refine k_skip rfl rfl ?_ | refine k_move rfl rfl rfl ?_ | refine k_assign rfl rfl rfl ?_ | refine k_pick rfl rfl rfl rfl ?_ | refine k_field rfl rfl rfl rfl ?_ | refine k_load rfl rfl rfl (by assumption) (by assumption) ?_ | refine k_load4 rfl rfl rfl rfl (by assumption) (by assumption) ?_ | refine k_lenI rfl rfl rfl rfl rfl rfl (by assumption) ?_ | refine wp_condT rfl ?_ | refine wp_condF rfl ?_ | refine wp_region ?_ | refine wp_seq ?_ | refine wp_skip ?_ | refine wp_exit ?_ | refine wp_block ?_)
    exact ⟨4 * n - (i + 1), by omega, i + 1, [_,_,_,_,_,_,_,_,_,_,_,_,_,_,_,_,_,_,_,_,_,_,_,_,_,_,_,_,_,_,_,_,_,_,_], r, fr, rfl, by omega, k05, hb6, hb5, b5, hG5, hro, hfr, Nat.le_succ_of_le hfl, rfl, rfl⟩
end Go.Ev
namespace Go.Ev
open Go.Proofs
theorem now_mem {P l : List Int} {j : Nat} {z : Int} : z ∈ nowL P l j ↔ ∃ x ∈ l, (nowL P [x] j).getD 0 0 = z := by
  rw [now_map P l j, List.mem_map]
theorem now_two (P : List Int) (x y : Int) (j : Nat) : nowL P [x, y] j = [(nowL P [x] j).getD 0 0, (nowL P [y] j).getD 0 0] := by
  rw [now_map P [x, y] j]; rfl
theorem mt_mono {m : Mc} {P l l' : List Int} {j p : Nat} (hs : ∀ z ∈ l', z ∈ l) (h : mtB m (nowL P l' j) p = true) : mtB m (nowL P l j) p = true := by
  cases hc : mtB m (nowL P l j) p with
  | true => rfl
  | false =>
    have := mtB_sub (now' := nowL P l' j) (fun z hz => by
      obtain ⟨x, hx, e⟩ := now_mem.1 hz
      exact now_mem.2 ⟨x, hs x hx, e⟩) hc
    rw [h] at this; cases this
theorem mtN_mono {m : Mc} {P l l' : List Int} {j : Nat} (hs : ∀ z ∈ l', z ∈ l) (h : mtN m (nowL P l j)) : mtN m (nowL P l' j) := fun p h1 h2 => by
  cases hc : mtB m (nowL P l' j) p with
  | false => rfl
  | true => have := mt_mono hs hc; rw [h p h1 h2] at this; cases this
theorem never_mono {m : Mc} {l l' : List Int} {n : Nat} (hs : ∀ z ∈ l', z ∈ l) (h : never m l n) : never m l' n := fun j => mtN_mono hs (h j)
theorem mt_pair {m : Mc} {l : List Int} {n j p : Nat} {P : List Int} (hg : m.g = n) (hn : 1 ≤ n) (hev : m.ring = true → n % 2 = 0) (h1 : fsE m ≤ p) (h2 : p < n) (h : mtB m (nowL P l j) p = true) : ∃ x y, seenP l l.length 0 x y ∧ mtB m (nowL P [x, y] j) p = true := by
  obtain ⟨s, t, e1, _, _, e4, _, _⟩ := place_pair hg hn hev h1 h2
  have hb : ∀ z ∈ psL m p, z ∈ nowL P l j := fun z hz => by
    unfold mtB at h
    rw [List.all_eq_true] at h
    exact of_decide_eq_true (h z hz)
  obtain ⟨x, hx, ex⟩ := now_mem.1 (hb s (by rw [e1]; simp))
  obtain ⟨y, hy, ey⟩ := now_mem.1 (hb t (by rw [e1]; simp))
  have hne : x ≠ y := fun e => e4.2.2.1 (by rw [← ex, ← ey, e])
  have two : ∀ x y : Int, (nowL P [x] j).getD 0 0 ∈ [s, t] → (nowL P [y] j).getD 0 0 ∈ [s, t] → (nowL P [x] j).getD 0 0 ≠ (nowL P [y] j).getD 0 0 → mtB m (nowL P [x, y] j) p = true := by
    intro x y h1 h2 h3
    unfold mtB
    rw [e1, now_two, List.all_eq_true]
    intro z hz
    simp only [List.mem_cons, List.not_mem_nil, or_false] at h1 h2 hz
    rcases h1 with h1 | h1 <;> rcases h2 with h2 | h2 <;> rcases hz with hz | hz <;> simp_all
  obtain ⟨i, hi⟩ := List.mem_iff_getElem?.1 hx
  obtain ⟨k, hk⟩ := List.mem_iff_getElem?.1 hy
  have hi' := (List.getElem?_eq_some_iff.1 hi).1
  have hk' := (List.getElem?_eq_some_iff.1 hk).1
  have hst := e4.2.2.1
  rcases Nat.lt_trichotomy i k with hl | he | hl
  · exact ⟨y, x, ⟨k, i, hl, .inl hk', hk, hi⟩, two y x (by rw [ey]; simp) (by rw [ex]; simp) (by rw [ex, ey]; exact fun e => hst e.symm)⟩
  · subst he; rw [hi] at hk; exact (hne (Option.some.inj hk)).elim
  · exact ⟨x, y, ⟨i, k, hl, .inl hi', hi, hk⟩, two x y (by rw [ex]; simp) (by rw [ey]; simp) (by rw [ex, ey]; exact hst)⟩
def BestQ (m : Mc) (l : List Int) (n a b : Nat) (best place : Int) : Prop :=
  (best = -1 ∧ place = 0 ∧ ∀ x y, seenP l a b x y → never m [x, y] n) ∨
  ∃ B p : Nat, best = B ∧ place = p ∧ (∀ x y, seenP l a b x y → ∀ j, j < B → mtN m (nowL (permL m n) [x, y] j)) ∧ (∃ x y, seenP l a b x y ∧ mtF m (nowL (permL m n) [x, y] B) p) ∧
    (∀ x y, seenP l a b x y → ∀ q : Nat, fsE m ≤ q → q < m.g → mtB m (nowL (permL m n) [x, y] B) q = true → p ≤ q)
theorem bq_zero (m : Mc) (l : List Int) (n : Nat) : BestQ m l n 0 0 (-1) 0 := .inl ⟨rfl, rfl, fun x y ⟨i, j, h1, h2, _⟩ => by omega⟩
theorem bq_row {m : Mc} {l : List Int} {n a : Nat} {best place : Int} (h : BestQ m l n a a best place) : BestQ m l n (a + 1) 0 best place := by
  have e : ∀ s t, seenP l (a + 1) 0 s t ↔ seenP l a a s t := fun s t => by
    constructor
    · rintro ⟨i, j, h1, h2, h3⟩; exact ⟨i, j, h1, by omega, h3⟩
    · rintro ⟨i, j, h1, h2, h3⟩; exact ⟨i, j, h1, by omega, h3⟩
  unfold BestQ
  simp only [e]
  exact h
def betterQ (best place : Int) (k p : Nat) (e : Int) : Prop := e = 0 ∧ (best < 0 ∨ (k : Int) < best ∨ ((k : Int) = best ∧ (p : Int) < place))
theorem bq_new {m : Mc} {l : List Int} {n a b k p : Nat} {x y best place e : Int} (hab : b < a) (ha : l[a]? = some x) (hb : l[b]? = some y) (h : BestQ m l n a b best place) (hr : Res m [x, y] n k p e) (hc : betterQ best place k p e) : BestQ m l n a (b + 1) k p := by
  obtain ⟨he, hc⟩ := hc
  rcases hr with ⟨_, r1, r2, r3⟩ | ⟨r0, _⟩
  rotate_left
  · omega
  refine .inr ⟨k, p, rfl, rfl, fun x' y' hs j hj => ?_, ⟨x, y, (seen_succ hab ha hb).2 (.inr ⟨rfl, rfl⟩), r1⟩, fun x' y' hs q hq1 hq2 hq => ?_⟩
  · rcases (seen_succ hab ha hb).1 hs with hs | ⟨rfl, rfl⟩
    · rcases h with ⟨h1, h2, h3⟩ | ⟨B, pp, h1, h2, h3, h4, h5⟩
      · exact h3 _ _ hs j
      · exact h3 _ _ hs j (by omega)
    · exact r2 j hj
  · rcases (seen_succ hab ha hb).1 hs with hs | ⟨rfl, rfl⟩
    · rcases h with ⟨h1, h2, h3⟩ | ⟨B, pp, h1, h2, h3, h4, h5⟩
      · have := h3 _ _ hs k q hq1 hq2; rw [hq] at this; cases this
      · rcases (show (k : Int) < B ∨ ((k : Int) = B ∧ (p : Int) < pp) by omega) with hl | ⟨hl, hp⟩
        · have := h3 _ _ hs k (by omega) q hq1 hq2; rw [hq] at this; cases this
        · have e : k = B := by omega
          subst e
          have := h5 _ _ hs q hq1 hq2 hq
          omega
    · rcases Nat.lt_or_ge q p with hl | hl
      · have := r1.2.2.2 q hq1 hl; rw [hq] at this; cases this
      · exact hl
theorem bq_keep {m : Mc} {l : List Int} {n a b k p : Nat} {x y best place e : Int} (hab : b < a) (ha : l[a]? = some x) (hb : l[b]? = some y) (h : BestQ m l n a b best place) (hr : Res m [x, y] n k p e) (hc : ¬ betterQ best place k p e) : BestQ m l n a (b + 1) best place := by
  rcases hr with ⟨r0, r1, r2, r3⟩ | ⟨r0, _, _, r1⟩
  · rcases h with ⟨h1, h2, h3⟩ | ⟨B, pp, h1, h2, h3, ⟨x0, y0, h4, h4'⟩, h5⟩
    · exact (hc ⟨r0, .inl (by omega)⟩).elim
    · have hk : ¬ (k : Int) < B ∧ ¬ ((k : Int) = B ∧ (p : Int) < pp) := ⟨fun hh => hc ⟨r0, .inr (.inl (by omega))⟩, fun hh => hc ⟨r0, .inr (.inr ⟨by omega, by omega⟩)⟩⟩
      refine .inr ⟨B, pp, h1, h2, fun x' y' hs j hj => ?_, ⟨x0, y0, (seen_succ hab ha hb).2 (.inl h4), h4'⟩, fun x' y' hs q hq1 hq2 hq => ?_⟩
      · rcases (seen_succ hab ha hb).1 hs with hs | ⟨rfl, rfl⟩
        · exact h3 _ _ hs j hj
        · exact r2 j (by omega)
      · rcases (seen_succ hab ha hb).1 hs with hs | ⟨rfl, rfl⟩
        · exact h5 _ _ hs q hq1 hq2 hq
        · rcases (show B < k ∨ B = k by omega) with hl | e
          · have := r2 B hl q hq1 hq2; rw [hq] at this; cases this
          · subst e
            rcases Nat.lt_or_ge q p with hl | hl
            · have := r1.2.2.2 q hq1 hl; rw [hq] at this; cases this
            · omega
  · rcases h with ⟨h1, h2, h3⟩ | ⟨B, pp, h1, h2, h3, ⟨x0, y0, h4, h4'⟩, h5⟩
    · refine .inl ⟨h1, h2, fun x' y' hs => ?_⟩
      rcases (seen_succ hab ha hb).1 hs with hs | ⟨rfl, rfl⟩
      · exact h3 _ _ hs
      · exact r1
    · refine .inr ⟨B, pp, h1, h2, fun x' y' hs j hj => ?_, ⟨x0, y0, (seen_succ hab ha hb).2 (.inl h4), h4'⟩, fun x' y' hs q hq1 hq2 hq => ?_⟩
      · rcases (seen_succ hab ha hb).1 hs with hs | ⟨rfl, rfl⟩
        · exact h3 _ _ hs j hj
        · exact r1 j
      · rcases (seen_succ hab ha hb).1 hs with hs | ⟨rfl, rfl⟩
        · exact h5 _ _ hs q hq1 hq2 hq
        · have := r1 B q hq1 hq2; rw [hq] at this; cases this
theorem bq_end {m : Mc} {l : List Int} {n kk pp : Nat} {best place e : Int} (h6 : Six m l n) (h : BestQ m l n l.length 0 best place) (hr : Res m l n kk pp e) : (best = -1 ∧ place = 0 ∧ e = 7 ∧ kk = 0 ∧ pp = 0 ∧ never m l n) ∨ ∃ B p : Nat, best = B ∧ place = p ∧ e = 0 ∧ kk = B ∧ pp = p ∧ mtF m (nowL (permL m n) l B) p ∧ ∀ j, j < B → mtN m (nowL (permL m n) l j) := by
  have hev := mE_ring h6.hg h6.hm0
  have hgn := h6.hg
  rcases h with ⟨h1, h2, h3⟩ | ⟨B, p, h1, h2, h3, ⟨x0, y0, h4, h4'⟩, h5⟩
  · have hnev : never m l n := fun j q hq1 hq2 => by
      cases hc : mtB m (nowL (permL m n) l j) q with
      | false => rfl
      | true =>
        obtain ⟨x, y, hs, hm⟩ := mt_pair h6.hg h6.hn1 hev hq1 (by omega) hc
        have := h3 x y hs j q hq1 hq2
        rw [hm] at this; cases this
    refine .inl ⟨h1, h2, ?_⟩
    rcases hr with ⟨_, r1, _, _⟩ | ⟨r0, r1, r2, _⟩
    · exact (mtF_not r1 (hnev _)).elim
    · exact ⟨r0, r1, r2, hnev⟩
  · have hno : ∀ j, j < B → mtN m (nowL (permL m n) l j) := fun j hj q hq1 hq2 => by
      cases hc : mtB m (nowL (permL m n) l j) q with
      | false => rfl
      | true =>
        obtain ⟨x, y, hs, hm⟩ := mt_pair h6.hg h6.hn1 hev hq1 (by omega) hc
        have := h3 x y hs j hj q hq1 hq2
        rw [hm] at this; cases this
    have hsub : ∀ z ∈ [x0, y0], z ∈ l := fun z hz => by
      obtain ⟨i, j, _, _, h6, h7⟩ := h4
      simp only [List.mem_cons, List.not_mem_nil, or_false] at hz
      rcases hz with rfl | rfl
      · exact List.mem_of_getElem? h6
      · exact List.mem_of_getElem? h7
    have hF : mtF m (nowL (permL m n) l B) p := by
      refine ⟨h4'.1, h4'.2.1, mt_mono hsub h4'.2.2.1, fun q hq1 hq2 => ?_⟩
      cases hc : mtB m (nowL (permL m n) l B) q with
      | false => rfl
      | true =>
        have hpg := h4'.2.1
        obtain ⟨x, y, hs, hm⟩ := mt_pair h6.hg h6.hn1 hev hq1 (by omega) hc
        have := h5 x y hs q hq1 (by omega) hm
        omega
    obtain ⟨e1, e2, e3⟩ := res_meet hr hno hF
    exact .inr ⟨B, p, h1, h2, e1, e2, e3, hF, hno⟩
theorem later_meets {m : Mc} {l : List Int} {n B p nl k3 p3 : Nat} {e3 : Int} (h6 : Six m l n) (hF : mtF m (nowL (permL m n) l B) p) (hno : ∀ j, j < B → mtN m (nowL (permL m n) l j)) (hr : Res m (nowL (permL m n) l nl) n k3 p3 e3) : e3 = 0 ∧ (nl ≤ B → k3 = B - nl) := by
  have hN := h6.good.hN
  have hadd : ∀ j, nowL (permL m n) (nowL (permL m n) l nl) j = nowL (permL m n) l (j + nl) := fun j => (now_add _ _ _ _).symm
  constructor
  · rcases hr with ⟨r0, _⟩ | ⟨_, _, _, r1⟩
    · exact r0
    · exfalso
      have h1 := r1 (B + 240 * (nl + 1) - nl)
      rw [hadd, show B + 240 * (nl + 1) - nl + nl = B + 240 * (nl + 1) by omega, now_add, now_round (n := n) hN] at h1
      exact mtF_not hF h1
  · intro hl
    have h1 : mtF m (nowL (permL m n) (nowL (permL m n) l nl) (B - nl)) p := by rw [hadd, show B - nl + nl = B by omega]; exact hF
    exact (res_meet hr (fun j hj => by rw [hadd]; exact hno _ (by omega)) h1).2.1
theorem Six.pair {m : Mc} {l : List Int} {n a b : Nat} {x y : Int} (h : Six m l n) (hab : b < a) (ha : l[a]? = some x) (hb : l[b]? = some y) : Six m [x, y] n := by
  refine h.sub (fun z hz => ?_) ?_ (by simp)
  · simp only [List.mem_cons, List.not_mem_nil, or_false] at hz
    rcases hz with rfl | rfl
    · exact h.hl _ (List.mem_of_getElem? ha)
    · exact h.hl _ (List.mem_of_getElem? hb)
  · have hne : x ≠ y := fun e => by
      obtain ⟨h1, e1⟩ := List.getElem?_eq_some_iff.1 ha
      obtain ⟨h2, e2⟩ := List.getElem?_eq_some_iff.1 hb
      have := List.pairwise_iff_getElem.1 (List.nodup_iff_pairwise_ne.1 h.hd) b a h2 h1 hab
      exact this (by rw [e1, e2, e])
    simp [hne]
theorem Six.two {m : Mc} {l : List Int} {n : Nat} {x y : Int} (h : Six m l n) (hx : x ∈ l) (hy : 0 ≤ y ∧ y < ((4 * n : Nat) : Int)) (hn : y ∉ l) : Six m [x, y] n := by
  refine h.sub (fun z hz => ?_) ?_ (by simp)
  · simp only [List.mem_cons, List.not_mem_nil, or_false] at hz
    rcases hz with rfl | rfl
    · exact h.hl _ hx
    · exact hy
  · have hne : x ≠ y := fun e => hn (by rw [← e]; exact hx)
    simp [hne]
end Go.Ev
