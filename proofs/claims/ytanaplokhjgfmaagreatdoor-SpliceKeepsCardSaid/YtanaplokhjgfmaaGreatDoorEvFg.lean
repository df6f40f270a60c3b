/- Part of an evaluator of calls that is proved sound, and of what it gives about this program. No condition of its own. -/
import Derived.Test.YtanaplokhjgfmaaGreatDoorEvFe
import Derived.Test.YtanaplokhjgfmaaGreatDoorEvFd
set_option linter.unusedVariables false
set_option linter.unusedSimpArgs false
set_option linter.unusedSectionVars false
set_option maxRecDepth 100000
set_option maxHeartbeats 4000000
namespace Go.Ev
open Go.Proofs
variable {O : CallF} (hq : Quiet O)
include hq
theorem c140 (H : AH) (r : Ru) (y : AV) (ks : List Tk) (rb : Nat) (hy : Ks H y ks) (hb : Bk H rb 23 r.cs) (hlt : rb < H.next) (hml : ks.length ≤ 100000) (hr : H.next + 1000000 < 2 ^ 59) (K : AV → AH → Prop)
   (hk : ∀ H', Keeps H H' → H'.next ≤ H.next + 6 * ks.length → K (iv (ecE r ks)) H') : Ca (ENV O) 140 [y, .fn (.func 141) [] [.ptr rb 0]] H K := by
 refine ca_intro (hq _ _ _ rfl) (fn := Tryz.f140) (by rfl) rfl ?_
 repeat (first | apply qN | refine qM rfl rfl ?_ | apply qR | apply qS)
 refine wops_cons (o_lenR rfl rfl rfl rfl rfl hy.sl ?_)
 rw [tks_length]
 repeat (first | apply qN | refine qM rfl rfl ?_ | apply qB)
 refine wp_loop (fun q T M H' => ∃ (i : Nat) (Y : List AV), q = ks.length - i ∧ i ≤ ks.length ∧ Keeps H H' ∧ H'.next ≤ H.next + 6 * i ∧ ecE r ks = ecE r (ks.drop i) ∧ M = [] ∧ T = (lget Y 0 :: .fn (.func 141) [] [.ptr rb 0] :: lget Y 1 :: lget Y 2 :: lget Y 3 :: lget Y 4 :: lget Y 5 :: lget Y 6 :: y :: iv (ks.length : Nat) :: iv (i : Nat) :: lget Y 7 :: lget Y 8 :: lget Y 9 :: lget Y 10 :: lget Y 11 :: lget Y 12 :: lget Y 13 :: lget Y 14 :: lget Y 15 :: lget Y 16 :: [])) ks.length
   ⟨0, [_,_,_,_,_,_,_,_,_,_,_,_,_,_,_,_,_], rfl, Nat.zero_le _, Keeps.refl H, Nat.le_refl _, rfl, rfl, rfl⟩ ?_
 rintro q T M H1 ⟨i, Y, hq1, hi, k1, n1, hst, rfl, rfl⟩
 have hy1 := hy.keep k1
 have x1 := k1.nx
 have hb1 := hb.keep hlt k1
 repeat (first | apply qR | apply qS)
 refine wops_cons (wop_cmp rfl rfl rfl rfl rfl (fun h => ?_) (fun h => ?_))
 rotate_left
 · have h : ¬ ((i : Int) < (ks.length : Nat)) := of_decide_eq_false h
   have e : i = ks.length := by omega
   subst e
   rw [List.drop_length] at hst
   have hk := hk H1 k1 n1
   rw [hst] at hk
   repeat (first | apply qN | refine qM rfl rfl ?_ | refine qF rfl ?_ | apply qR | apply qS | apply qE)
   refine wp_ret ?_
   exact ⟨_, _, rfl, hk⟩
 have hi' : i < ks.length := by have h : (i : Int) < (ks.length : Nat) := of_decide_eq_true h; omega
 clear h
 obtain ⟨k, hp⟩ := t_some hi'
 rw [dropT hp, ecE] at hst
 have r1 : H1.next < 2 ^ 59 := by omega
 repeat (first | apply qN | refine qT rfl ?_ | apply qR | apply qS | apply qK | apply qB)
 refine wops_cons (o_indexR rfl rfl hy1.sl rfl (tks_get hp) rfl fun pp hpp _ => ?_)
 refine wops_cons (o_loadR rfl rfl hpp rfl rfl fun v hv => ?_)
 refine wops_cons (o_allocA (zs := [iv 0, iv 0, iv 0]) rfl rfl (z := .agg #[.int .i64 0, .int .i64 0, .int .i64 0]) (by kernel_rfl) rfl r1 ?_)
 refine wops_cons (o_storeA (n := 3) (vs := k.cs) rfl rfl (by kernel_rfl) rfl hv rfl rfl (get_add_eq r1) (Nat.le_refl _) ?_)
 refine WOps.mem (fun H2 => Keeps H1 H2 ∧ H2.next = H1.next + 1 ∧ Bk H2 H1.next 28 k.cs) ⟨((Keeps.refl H1).add _ r1).set _ (Nat.le_refl _) r1, rfl, ⟨r1, get_set_eq r1⟩⟩ ?_
 rintro H2 ⟨k2, n2, b2⟩
 have hb2 := hb1.keep (by omega) k2
 show WOps _ _ _ _ _ _
 repeat (first | apply qN | refine qM rfl rfl ?_ | refine zqb rfl rfl rfl ‹_› ?_ | apply qR | apply qS)
 refine wops_cons (wop_callFn rfl rfl rfl rfl (fn := Tryz.f141) (by rfl) ?_)
 refine c141 hq H2 r k _ rb rfl hb2 (by omega) (by omega) _ fun H3 k3 n3 => ⟨k3.nx, ?_⟩
 have k13 := k2.trans k3
 by_cases hw0 : tukE r k = 0
 · rw [if_pos hw0] at hst
   rw [hw0]
   repeat (first | apply qN | refine qM rfl rfl ?_ | apply qR | apply qS)
   refine wops_cons (wop_bin (op := .neq) (v := .bool false) rfl rfl rfl rfl rfl ?_)
   repeat (first | apply qN | refine qM rfl rfl ?_ | refine zq4 rfl rfl rfl rfl (inc (by omega)) ?_ | refine qF rfl ?_ | apply qR | apply qK)
   exact ⟨ks.length - (i + 1), by omega, i + 1, [_,_,_,_,_,_,_,_,_,_,_,_,_,_,_,_,_], rfl, by omega, k1.trans k13, by omega, hst, rfl, rfl⟩
 · rw [if_neg hw0] at hst
   have hk := hk H3 (k1.trans k13) (by omega)
   rw [hst] at hk
   generalize tukE r k = w at hw0 hk ⊢
   repeat (first | apply qN | refine qM rfl rfl ?_ | apply qR | apply qS)
   refine wops_cons (wop_bin (op := .neq) (v := .bool true) rfl rfl rfl rfl (by simp [binI, hw0]) ?_)
   repeat (first | apply qN | refine qM rfl rfl ?_ | refine qT rfl ?_ | apply qR | apply qS)
   refine wp_ret ?_
   exact ⟨_, _, rfl, hk⟩
theorem c82 (H : AH) (r : Ru) (rv y : AV) (ks : List Tk) (hrv : rv.cells = r.cs) (hy : Ks H y ks) (hml : ks.length ≤ 100000) (hr : H.next + 1000010 < 2 ^ 59) (K : AV → AH → Prop)
   (hk : ∀ H', Keeps H H' → H'.next ≤ H.next + 4 + 6 * ks.length → K (iv (tksE r ks)) H') : Ca (ENV O) 82 [rv, y] H K := by
 refine ca_intro (hq _ _ _ rfl) (fn := Tryz.f82) (by rfl) rfl ?_
 have r0 : H.next < 2 ^ 59 := by omega
 repeat (first | apply qR | apply qS)
 refine wops_cons (o_boxS (cs := r.cs) rfl rfl hrv r0 fun H1 n1 k1 b1 => ?_)
 have hy1 := hy.keep k1
 repeat (first | apply qN | refine qM rfl rfl ?_ | apply qR | apply qS)
 refine wops_cons (o_lenR rfl rfl rfl rfl rfl hy1.sl ?_)
 rw [tks_length]
 refine wops_cons (wop_bin (op := .leq) (v := .bool (decide ((ks.length : Int) ≤ 256))) rfl rfl rfl rfl rfl ?_)
 refine wops_cons (wop_callF rfl rfl rfl (fn := Tryz.f70) (by rfl) ?_)
 refine cThat hq H1 _ 5 _ ⟨Nat.le_refl _, ?_⟩
 repeat (first | refine qM rfl rfl ?_)
 refine wops_cons (wop_makeFunc rfl rfl ?_)
 refine wops_cons (wop_callF rfl rfl rfl (fn := Tryz.f140) (by rfl) ?_)
 refine c140 hq H1 r y ks H.next hy1 b1 (by omega) hml (by omega) _ fun H2 k2 n2 => ⟨k2.nx, ?_⟩
 have r2 : H2.next < 2 ^ 59 := by omega
 skip
 refine wops_cons (o_build2 rfl rfl rfl rfl r2 ?_)
 refine WOps.mem (fun H3 => Keeps H2 H3 ∧ H3.next = H2.next + 1 ∧ Sl H3 (.slc H2.next 0 2 2) (ivs [if decide ((ks.length : Int) ≤ 256) = true then 0 else 5, ecE r ks])) ⟨(Keeps.refl H2).add _ r2, rfl, sl_new (cs := ivs [if decide ((ks.length : Int) ≤ 256) = true then 0 else 5, ecE r ks]) r2 2⟩ ?_
 rintro H3 ⟨k3, n3, hs3⟩
 refine wops_cons (wop_callF rfl rfl rfl (fn := Tryz.f68) (by rfl) ?_)
 refine cFirst hq H3 _ _ hs3 (by show 2 ≤ 1000; decide) _ ⟨Nat.le_refl _, ?_⟩
 clear hs3
 show WOps _ _ _ _ _ _
 rw [show firstNZ [if decide ((ks.length : Int) ≤ 256) = true then 0 else 5, ecE r ks] = tksE r ks from rfl]
 repeat (first | apply qN | refine qM rfl rfl ?_)
 refine wp_ret ?_
 exact ⟨_, _, rfl, hk H3 ((k1.trans k2).trans k3) (by omega)⟩
theorem c83 (H : AH) (y : AV) (h1 : y.one = true) (hr : H.next + 20 < 2 ^ 59) (K : AV → AH → Prop) (hk : ∀ H', Keeps H H' → H'.next = H.next + 1 → H'.get H.next = some (.cells [y] 52 0) → K (.fn (.func 142) [] [.ptr H.next 0]) H') : Ca (ENV O) 83 [y] H K := by
 refine ca_intro (hq _ _ _ rfl) (fn := Tryz.f83) (by rfl) rfl ?_
 have r0 : H.next < 2 ^ 59 := by omega
 repeat (first | apply qR | apply qS)
 refine wops_cons (o_box rfl rfl h1 r0 ?_)
 refine WOps.mem (fun H1 => Keeps H H1 ∧ H1.next = H.next + 1 ∧ H1.get H.next = some (.cells [y] 52 0)) ⟨(Keeps.refl H).add _ r0, rfl, get_add_eq r0⟩ ?_
 rintro H1 ⟨k1, n1, g1⟩
 show WOps _ _ _ _ _ _
 repeat (first | apply qN | refine qM rfl rfl ?_ | apply qR | apply qS)
 refine wops_cons (wop_makeFunc rfl rfl ?_)
 repeat (first | apply qN | refine qM rfl rfl ?_)
 refine wp_ret ?_
 exact ⟨_, _, rfl, hk H1 k1 n1 g1⟩
theorem c142 (lb tb : Nat) (y : AV) (ks : List Tk) (R : Nat → AH → Prop) (hml : ks.length ≤ 100000)
   (hm : ∀ i H, R i H → At H (.ptr tb 0) y ∧ SlR 3 H y (tks ks) ∧ H.next + 20 < 2 ^ 59)
   (hy : ∀ i H H' kv k, ks[i]? = some k → R i H → Keeps H H' → H'.next = H.next + 1 → kv.cells = k.cs → ∀ K : AV → AH → Prop, (∀ H2, R (i + 1) H2 → H'.next ≤ H2.next → K (.v (.bool true)) H2) → Yl (ENV O) lb [iv ((i : Int) + 1), kv] H' K)
   (H : AH) (h0 : R 0 H) (K : AV → AH → Prop) (hk : ∀ r H', R ks.length H' → K r H') : Ca (ENV O) 142 [.yl lb, .ptr tb 0] H K := by
 refine ca_intro (hq _ _ _ rfl) (fn := Tryz.f142) (by rfl) rfl ?_
 obtain ⟨m1, m2, m3⟩ := hm _ _ h0
 repeat (first | refine zq6 rfl rfl ‹_› ?_ | apply qR | apply qS)
 refine wops_cons (o_lenR rfl rfl rfl rfl rfl m2 ?_)
 rw [tks_length]
 repeat (first | apply qN | refine qM rfl rfl ?_ | apply qB)
 refine wp_loop (fun q T M H' => ∃ (i : Nat) (Y : List AV), q = ks.length - i ∧ i ≤ ks.length ∧ R i H' ∧ M = [] ∧ T = (.yl lb :: .ptr tb 0 :: lget Y 0 :: lget Y 1 :: lget Y 2 :: y :: iv (ks.length : Nat) :: iv (i : Nat) :: lget Y 3 :: lget Y 4 :: lget Y 5 :: lget Y 6 :: lget Y 7 :: lget Y 8 :: lget Y 9 :: lget Y 10 :: lget Y 11 :: lget Y 12 :: lget Y 13 :: [])) ks.length
   ⟨0, [_,_,_,_,_,_,_,_,_,_,_,_,_,_], rfl, Nat.zero_le _, h0, rfl, rfl⟩ ?_
 rintro q T M H1 ⟨i, Y, hq1, hi, hR, rfl, rfl⟩
 obtain ⟨m1, m2, m3⟩ := hm _ _ hR
 repeat (first | apply qR | apply qS)
 refine wops_cons (wop_cmp rfl rfl rfl rfl rfl (fun h => ?_) (fun h => ?_))
 rotate_left
 · have h : ¬ ((i : Int) < (ks.length : Nat)) := of_decide_eq_false h
   have e : i = ks.length := by omega
   subst e
   repeat (first | apply qN | refine qF rfl ?_ | apply qS | apply qE)
   exact ⟨_, _, rfl, hk _ _ hR⟩
 have hi' : i < ks.length := by have h : (i : Int) < (ks.length : Nat) := of_decide_eq_true h; omega
 clear h
 obtain ⟨k, hp⟩ := t_some hi'
 have r1 : H1.next < 2 ^ 59 := by omega
 repeat (first | apply qN | refine qM rfl rfl ?_ | refine qT rfl ?_ | apply qR | apply qS | apply qK | apply qB)
 refine wops_cons (o_indexR rfl rfl m2 rfl (tks_get hp) rfl fun pp hpp _ => ?_)
 refine wops_cons (o_loadR rfl rfl hpp rfl rfl fun v hv => ?_)
 refine wops_cons (o_allocA (zs := [iv 0, iv 0, iv 0]) rfl rfl (z := .agg #[.int .i64 0, .int .i64 0, .int .i64 0]) (by kernel_rfl) rfl r1 ?_)
 repeat (first | refine qM rfl rfl ?_)
 refine wops_cons (o_storeA (n := 3) (vs := k.cs) rfl rfl (by kernel_rfl) rfl hv rfl rfl (get_add_eq r1) (Nat.le_refl _) ?_)
 refine WOps.mem (fun H2 => Keeps H1 H2 ∧ H2.next = H1.next + 1 ∧ Bk H2 H1.next 28 k.cs) ⟨((Keeps.refl H1).add _ r1).set _ (Nat.le_refl _) r1, rfl, ⟨r1, get_set_eq r1⟩⟩ ?_
 rintro H2 ⟨k2, n2, b2⟩
 show WOps _ _ _ _ _ _
 repeat (first | apply qN | refine qM rfl rfl ?_ | refine zq4 rfl rfl rfl rfl (inc (by omega)) ?_ | refine zqb rfl rfl rfl ‹_› ?_ | apply qR | apply qS)
 refine wops_cons (wop_yield rfl rfl rfl rfl ?_)
 refine hy i H1 H2 _ k hp hR k2 n2 rfl _ fun H3 hR3 hn3 => ⟨hn3, ?_⟩
 repeat (first | apply qN | refine qM rfl rfl ?_ | refine zq4 rfl rfl rfl rfl (inc (by omega)) ?_ | refine zq8 rfl rfl rfl ?_ | refine qF rfl ?_ | apply qR | apply qK)
 exact ⟨ks.length - (i + 1), by omega, i + 1, [_,_,_,_,_,_,_,_,_,_,_,_,_,_], rfl, by omega, hR3, rfl, rfl⟩
end Go.Ev
namespace Go.Ev
open Go.Proofs
def nxT (tk : List Int) (k : Tk) : List Int := tk.set k.a.toNat (tk.getD k.a.toNat 0 + 1)
def nxG (r : Ru) (gp : List Int) (k : Tk) : List Int := gp.set k.a.toNat (gapA r k (gp.getD k.a.toNat 0))
theorem Tkd.nx {r : Ru} {tk gp : List Int} {k : Tk} {j : Nat} {z g : Int} (h : Tkd r tk gp k j z g) : nxT tk k = tk.set j (z + 1) ∧ nxG r gp k = gp.set j (gapA r k g) := by
 have e : k.a.toNat = j := by have := h.a; omega
 unfold nxT nxG
 rw [e, List.getD_eq_getElem?_getD, List.getD_eq_getElem?_getD, h.z, h.g]
 exact ⟨rfl, rfl⟩
theorem legE_0 {r : Ru} {tk gp : List Int} {k : Tk} {z g : Int} (h : legE r tk gp k z g = 0) : z < r.f + r.t ∧ z = mnL tk ∧ ruled r k (decide (z < r.f)) = true ∧ (z + 1, gapA r k g) ∉ prs tk gp := by
 unfold legE at h
 split at h
 · rename_i h1
   split at h
   · rename_i h2
     split at h
     · rename_i h3
       split at h
       · exact absurd h (by decide)
       · rename_i h4; exact ⟨h1, h2, h3, h4⟩
     · exact absurd h (by decide)
   · exact absurd h (by decide)
 · exact absurd h (by decide)
theorem gap_rg {r : Ru} {k : Tk} {g : Int} (hr : 2 ≤ r.s) (hg : 0 ≤ g) (hb : 0 ≤ k.b) (hc : 0 ≤ k.c) : 0 ≤ gapA r k g ∧ gapA r k g ≤ r.s - 1 := by
 unfold gapA
 have h1 := Int.tmod_nonneg r.s (show 0 ≤ g + k.b + k.c by omega)
 have h2 := Int.tmod_lt_of_pos (g + k.b + k.c) (show 0 < r.s by omega)
 omega
theorem sta_next {r : Ru} {tk gp : List Int} {k : Tk} (h : staE r tk gp = 0) (h2 : tukE r k = 0) (hl : lgE r tk gp k = 0) : staE r (nxT tk k) (nxG r gp k) = 0 := by
 obtain ⟨j, z, g, hT, hlg⟩ := tkd_of h h2
 rw [hlg] at hl
 obtain ⟨e1, e2⟩ := hT.nx
 rw [e1, e2]
 obtain ⟨hz, hm, -, hn⟩ := legE_0 hl
 obtain ⟨hp, hok⟩ := staE_ok h
 have hst := preE_ok hp
 have hR := hst.ru
 have hw1 : w64 (r.f + r.t) = r.f + r.t := wr64 (by omega)
 have hw2 : w64 (r.s - 1) = r.s - 1 := wr64 (by omega)
 have hgr := gap_rg (r := r) (k := k) (g := g) (by omega) hT.gb.1 hT.b.1 hT.c.1
 have hzb := hT.zb
 have hne : tk ≠ [] := fun e => by have := hst.lt; rw [e] at this; simp at this; omega
 have hll : gp.length = tk.length := by have := hst.lt; have := hst.lg; omega
 have hjt := (List.getElem?_eq_some_iff.1 hT.z).1
 have hjg := (List.getElem?_eq_some_iff.1 hT.g).1
 have hru : ruE r = 0 := by
   unfold preE at hp
   by_cases h0 : ruE r = 0
   · exact h0
   · rw [fnz_ne h0] at hp; exact hp
 have g0 : preE r (tk.set j (z + 1)) (gp.set j (gapA r k g)) = 0 := by
   refine preE_good hru (by rw [List.length_set]; exact hst.lt) (by rw [List.length_set]; exact hst.lg) (fun a ha => ?_) (fun b hb => ?_)
   · rw [hw1]
     rcases List.mem_or_eq_of_mem_set ha with ha | rfl
     · exact inB_iff.2 (hst.tk a ha)
     · exact inB_iff.2 (by omega)
   · rw [hw2]
     rcases List.mem_or_eq_of_mem_set hb with hb | rfl
     · exact inB_iff.2 (hst.gp b hb)
     · exact inB_iff.2 hgr
 unfold staE
 rw [if_pos g0, if_pos]
 have hmin := (mnL_min hne (List.mem_of_getElem? hT.z)).1 hm
 have hold := (okB_iff hne hll).1 hok
 refine (okB_iff (fun e => hne (by simpa using e)) (by rw [List.length_set, List.length_set]; exact hll)).2 ?_
 intro i i' a b c d ha hb hc hd hbad
 have gs : ∀ {l : List Int} {m : Nat} {x v : Int} (hm : j < l.length), (l.set j v)[m]? = some x → (m = j ∧ x = v) ∨ (m ≠ j ∧ l[m]? = some x) := fun {l m x v} hjl hx => by
   rw [List.getElem?_set] at hx
   by_cases e : j = m
   · subst e; rw [if_pos rfl, if_pos hjl] at hx; exact .inl ⟨rfl, (Option.some.inj hx).symm⟩
   · rw [if_neg e] at hx; exact .inr ⟨fun e' => e e'.symm, hx⟩
 rcases gs hjt ha with ⟨rfl, rfl⟩ | ⟨hi, ha2⟩ <;> rcases gs hjt hc with ⟨rfl, rfl⟩ | ⟨hi', hc2⟩
 · rcases hbad with hb1 | ⟨hb1, _, _⟩
   · omega
   · exact hb1 rfl
 · rcases gs hjg hb with ⟨_, rfl⟩ | ⟨hi2, hb2⟩
   · rcases gs hjg hd with ⟨e, _⟩ | ⟨_, hd2⟩
     · exact absurd e hi'
     · rcases hbad with hb1 | ⟨hb1, hb2, hb3⟩
       · have := hmin c (List.mem_of_getElem? hc2)
         omega
       · exact hn (prs_mem.2 ⟨i', by rw [hb2]; exact hc2, by rw [hb3]; exact hd2⟩)
   · exact absurd rfl hi2
 · rcases gs hjg hd with ⟨_, rfl⟩ | ⟨hi2, hd2⟩
   · rcases gs hjg hb with ⟨e, _⟩ | ⟨_, hb2⟩
     · exact absurd e hi
     · rcases hbad with hb1 | ⟨hb1, hb3, hb4⟩
       · exact hold _ _ a b z g ha2 hb2 hT.z hT.g (.inl (by omega))
       · exact hn (prs_mem.2 ⟨i, by rw [← hb3]; exact ha2, by rw [← hb4]; exact hb2⟩)
   · exact absurd rfl hi2
 · rcases gs hjg hb with ⟨e, _⟩ | ⟨_, hb2⟩
   · exact absurd e hi
   · rcases gs hjg hd with ⟨e, _⟩ | ⟨_, hd2⟩
     · exact absurd e hi'
     · exact hold i i' a b c d ha2 hb2 hc2 hd2 hbad
def rpS (r : Ru) : List Int → List Int → Nat → List Tk → (List Int × List Int) × List (Int × Int)
 | tk, gp, _, [] => ((tk, gp), [])
 | tk, gp, i, k :: ks => if lgE r tk gp k = 0 then rpS r (nxT tk k) (nxG r gp k) (i + 1) ks else ((rpS r tk gp (i + 1) ks).1, ((i : Int) + 1, lgE r tk gp k) :: (rpS r tk gp (i + 1) ks).2)
def rfs (l : List (Int × Int)) : List (List AV) := l.map fun p => [iv p.1, iv p.2]
theorem rfs_len (l : List (Int × Int)) : ∀ r ∈ rfs l, r.length = 2 := fun r hr => by
 obtain ⟨k, _, rfl⟩ := List.mem_map.1 hr
 rfl
theorem rfs_length (l : List (Int × Int)) : (rfs l).length = l.length := by simp [rfs]
theorem rfs_snoc (l : List (Int × Int)) (a b : Int) : rfs l ++ [[iv a, iv b]] = rfs (l ++ [(a, b)]) := by simp [rfs]
def rpE (r : Ru) (ks : List Tk) : Int := firstNZ [ruE r, tksE r ks]
theorem rpS_sta {r : Ru} : ∀ {ks : List Tk} {tk gp : List Int} {i : Nat}, staE r tk gp = 0 → (∀ k ∈ ks, tukE r k = 0) → staE r (rpS r tk gp i ks).1.1 (rpS r tk gp i ks).1.2 = 0
 | [], _, _, _, h, _ => h
 | k :: ks, tk, gp, i, h, hk => by
   rw [rpS]
   by_cases hl : lgE r tk gp k = 0
   · rw [if_pos hl]; exact rpS_sta (sta_next h (hk k (by simp)) hl) (fun q hq => hk q (List.mem_cons_of_mem _ hq))
   · rw [if_neg hl]; exact rpS_sta h (fun q hq => hk q (List.mem_cons_of_mem _ hq))
theorem tk_ne {r : Ru} {tk gp : List Int} (h : staE r tk gp = 0) : tk ≠ [] ∧ gp ≠ [] ∧ tk.length ≤ 8 ∧ gp.length ≤ 8 ∧ gp.length = tk.length ∧ (tk.length : Int) = r.s := by
 have hst := preE_ok (staE_ok h).1
 have hR := hst.ru
 have h1 := hst.lt
 have h2 := hst.lg
 refine ⟨fun e => by rw [e] at h1; simp at h1; omega, fun e => by rw [e] at h2; simp at h2; omega, by omega, by omega, by omega, h1⟩
theorem sta_start {r : Ru} {n : Nat} (hr : ruE r = 0) (hn : r.s = (n : Int)) : staE r (List.replicate n 0) (nums n) = 0 := by
 have hR := ruE_ok hr
 have hw1 : w64 (r.f + r.t) = r.f + r.t := wr64 (by omega)
 have hw2 : w64 (r.s - 1) = r.s - 1 := wr64 (by omega)
 have hnl : (nums n).length = n := nums_len n
 have g0 : preE r (List.replicate n 0) (nums n) = 0 := by
   refine preE_good hr (by rw [List.length_replicate]; omega) (by rw [hnl]; omega) (fun a ha => ?_) (fun b hb => ?_)
   · rw [List.eq_of_mem_replicate ha, hw1]; exact inB_iff.2 (by omega)
   · obtain ⟨i, hi⟩ := List.mem_iff_getElem?.1 hb
     have hil := (List.getElem?_eq_some_iff.1 hi).1
     rw [hw2]
     have : b = (i : Int) := by
       have h := nums_get (n := n) (i := i) (by omega)
       rw [h] at hi; exact (Option.some.inj hi).symm
     exact inB_iff.2 (by omega)
 unfold staE
 rw [if_pos g0, if_pos]
 refine (okB_iff (fun e => by have := congrArg List.length e; simp at this; omega) (by rw [List.length_replicate, hnl])).2 ?_
 intro i i' a b c d ha hb hc hd hbad
 have h1 := List.eq_of_mem_replicate (List.mem_of_getElem? ha)
 have h2 := List.eq_of_mem_replicate (List.mem_of_getElem? hc)
 have hi := (List.getElem?_eq_some_iff.1 hb).1
 have hi' := (List.getElem?_eq_some_iff.1 hd).1
 rw [nums_get (n := n) (by omega)] at hb hd
 rcases hbad with h | ⟨h3, h4, h5⟩
 · omega
 · apply h3
   have e1 := Option.some.inj hb
   have e2 := Option.some.inj hd
   omega
end Go.Ev
