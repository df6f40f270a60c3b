/- Part of an evaluator of calls that is proved sound, and of what it gives about this program. No condition of its own. -/
import Derived.Test.YtanaplokhjgfmaaGreatDoorEwHa
set_option linter.unusedVariables false
set_option linter.unusedSimpArgs false
set_option linter.unusedSectionVars false
set_option maxRecDepth 100000
set_option maxHeartbeats 4000000
namespace Go.Ev
open Go.Proofs
def inB (n lo hi : Int) : Bool := decide (lo ≤ n ∧ n ≤ hi)
def firstNZ : List Int → Int
 | [] => 0
 | z :: l => if z ≠ 0 then z else firstNZ l
theorem firstNZ_cons (z : Int) (l : List Int) : firstNZ (z :: l) = if z ≠ 0 then z else firstNZ l := rfl
theorem sl_new {H : AH} {cs : List AV} {e : TypeId} (hr : H.next < 2 ^ 59) (n : Nat) : Sl (H.add (.cells cs e 0)) (.slc H.next 0 cs.length n) cs :=
 ⟨rfl, hr, cs, e, 0, by rw [AH.get_add _ _ _ hr, if_pos rfl], fun j v h => by rw [Nat.zero_add]; exact h⟩
def CapOk (x : AV) : Prop := match x with | .v (.slice _ n c) => n ≤ c | .slc _ _ n c => n ≤ c | _ => True
section
variable {O : CallF} {T : List AV} {H : AH} {ops : Array Oper} {o : Oper} {K : AV → AH → Prop}
end
def Nw (H : AH) (r : AV) (l : List Int) : Prop := ∃ b, r = .slc b 0 l.length l.length ∧ b < H.next ∧ b < 2 ^ 59 ∧ H.get b = some (.cells (ivs l) 3 0)
theorem beqs_ivs : ∀ l : List Int, beqs (ivs l) (ivs l) = true
 | [] => rfl
 | x :: l => by
   show (AV.beq (iv x) (iv x) && beqs (ivs l) (ivs l)) = true
   rw [beqs_ivs l]
   simp [AV.beq, iv, vbeq]
theorem Nw.sl {H : AH} {r : AV} {l : List Int} (h : Nw H r l) : Sl H r (ivs l) := by
 obtain ⟨b, rfl, h1, h2, h3⟩ := h
 exact ⟨(ivs_length l).symm, h2, _, _, _, h3, fun j v hv => by rw [Nat.zero_add]; exact hv⟩
theorem Nw.old {H : AH} {r : AV} {l : List Int} (h : Nw H r l) : Old H r := by
 obtain ⟨b, rfl, h1, h2, h3⟩ := h
 intro c hc; cases hc; exact h1
theorem Nw.lk {H : AH} {r : AV} {l : List Int} (h : Nw H r l) : ∀ c, r.own = some c → Lk H c := by
 obtain ⟨b, rfl, h1, h2, h3⟩ := h
 intro c hc; cases hc
 refine ⟨h1, ?_⟩
 rw [h3]
 simp [sameBlk, beqs_ivs]
theorem Nw.cap {H : AH} {r : AV} {l : List Int} (h : Nw H r l) : CapOk r := by
 obtain ⟨b, rfl, h1, h2, h3⟩ := h
 exact Nat.le_refl _
theorem Nw.keep {H H' : AH} {r : AV} {l : List Int} (h : Nw H r l) (k : Keeps H H') : Nw H' r l := by
 obtain ⟨b, rfl, h1, h2, h3⟩ := h
 exact ⟨b, rfl, Nat.lt_of_lt_of_le h1 k.nx, h2, (k.get b h1).trans h3⟩
theorem ivs_rep (n : Nat) : List.replicate n (AV.v (.int .i64 0)) = ivs (List.replicate n 0) := by simp [ivs, iv]
theorem ivs_set (l : List Int) (i : Nat) (z : Int) : (ivs l).set i (iv z) = ivs (l.set i z) := by simp [ivs, List.map_set]
theorem fill_set {l : List Int} {n i : Nat} (hl : l.length = n) (hi : i < n) {z : Int} (hz : l[i]? = some z) : (l.take i ++ List.replicate (n - i) (0 : Int)).set i z = l.take (i + 1) ++ List.replicate (n - (i + 1)) 0 := by
 have h1 : (l.take i).length = i := by rw [List.length_take]; omega
 rw [List.set_append_right _ _ (by omega), h1, Nat.sub_self, List.take_add_one, hz]
 obtain ⟨k, hk⟩ : ∃ k, n - i = k + 1 := ⟨n - i - 1, by omega⟩
 rw [hk, List.replicate_succ, List.set_cons_zero, show n - (i + 1) = k by omega]
 simp
theorem WOps.H {E : Env} {ops : Array Oper} {l : List Oper} {T : List AV} {H H' : AH} {K : List AV → AH → Prop} (h : H = H') (hw : WOps E ops l T H' K) : WOps E ops l T H K := h ▸ hw
section
variable {O : CallF} {T : List AV} {H H0 : AH} {ops : Array Oper} {o : Oper} {K : AV → AH → Prop}
theorem o_loadA {t : TypeId} {n : Nat} {x : Operand} {b off : Nat} {cs r : List AV} {e : TypeId} {g : Nat} (ho : o.op = .load t x) (hg : wantedA o ops T = true) (ha : runPure Tryz.prog (isAgg t) = some true) (hs : runPure Tryz.prog (sizeOf t) = some n) (hx : av T x = .ptr b off) (hc : H.get b = some (.cells cs e g)) (hr : (cs.drop off).take n = r) (hl : off + n ≤ cs.length) (hk : K (.agg r) H) : WOp (ENV O) ops o T H K := by
 refine wop_val (by rw [ho]; rfl) hg (H' := H) (r := .agg r) ?_ (Nat.le_refl _) hk
 unfold opEval; rw [ho]
 simp only [ENV, oLoad, hx, loadA, hc, ha, hs]
 rw [if_pos (Nat.ble_eq_true_of_le hl), hr]
 rfl
theorem o_storeA {t : TypeId} {n : Nat} {p x : Operand} {b off : Nat} {cs : List AV} {e : TypeId} {g : Nat} {vs : List AV} (ho : o.op = .store t p x) (hg : wantedA o ops T = true) (hs : runPure Tryz.prog (sizeOf t) = some n) (hp : av T p = .ptr b off) (hx : (av T x).cells = vs) (hn : vs.length = n) (h1 : vs.all AV.one = true) (hc : H.get b = some (.cells cs e g)) (hl : off + n ≤ cs.length)
   (hk : K (.v undef) (H.set b (some (.cells (wr cs off vs) e g)))) : WOp (ENV O) ops o T H K := by
 refine wop_val (by rw [ho]; rfl) hg (r := .v undef) (H' := H.set b (some (.cells (wr cs off vs) e g))) ?_ (Nat.le_refl _) hk
 unfold opEval; rw [ho]
 have e1 : Nat.beq (av T x).cells.length n = true := by rw [hx, hn]; exact Nat.beq_refl n
 have e2 : (Nat.ble (off + (av T x).cells.length) cs.length && (av T x).cells.all AV.one) = true := by rw [hx, hn, h1, Nat.ble_eq_true_of_le hl]; rfl
 simp only [ENV, storeOpA, hp, hs, e1, if_true, storeA, hc]
 rw [if_pos e2, hx]
 rfl
theorem o_allocA {t : TypeId} {z : Value} {zs : List AV} (ho : o.op = .alloc t) (hg : wantedA o ops T = true) (hz : runPure Tryz.prog (zeroValue t) = some z) (hc : z.cells.toList.map .v = zs) (hr : H.next < 2 ^ 59) (hk : K (.ptr H.next 0) (H.add (.cells zs t 0))) : WOp (ENV O) ops o T H K := by
 refine wop_val (by rw [ho]; rfl) hg (H' := H.add (.cells zs t 0)) (r := .ptr H.next 0) ?_ (Nat.le_succ _) hk
 unfold opEval; rw [ho]
 have hlt : Nat.blt H.next (2 ^ 59) = true := Nat.ble_eq_true_of_le hr
 simp only [ENV, allocA, hz, hc, newA, hlt, if_true, Option.map_some]
end
theorem WOps.mem {E : Env} {ops : Array Oper} {l : List Oper} {T : List AV} {H : AH} {K : List AV → AH → Prop} (P : AH → Prop) (h : P H) (hw : ∀ H', P H' → WOps E ops l T H' K) : WOps E ops l T H K := hw H h
structure Ky (H : AH) (v : AV) (l : List Int) : Prop where
 sl : Sl H v (ivs l)
 old : Old H v
 cap : CapOk v
 lk : ∀ b, v.own = some b → Lk H b
theorem Ky.keep {H H' : AH} {v : AV} {l : List Int} (h : Ky H v l) (k : Keeps H H') : Ky H' v l := ⟨h.sl.keep h.old k, h.old.keep k, h.cap, fun b hb => (h.lk b hb).keep k⟩
section
variable {O : CallF} {T : List AV} {H H0 : AH} {ops : Array Oper} {o : Oper} {i : Nat} {π : List Stp}
end
def Ap (H : AH) (r : AV) (l : List Int) : Prop :=
 (r = .v (.slice none 0 0) ∧ l = []) ∨ (∃ b, r = .slc b 0 0 0 ∧ l = [] ∧ b < H.next ∧ b < 2 ^ 59 ∧ H.get b = some (.cells [] 3 0)) ∨ (∃ b, r = .slu b 0 l.length 1 ∧ b < H.next ∧ b < 2 ^ 59 ∧ H.get b = some (.cells (ivs l) 3 1))
theorem Ap.keep {H H' : AH} {r : AV} {l : List Int} (h : Ap H r l) (k : Keeps H H') : Ap H' r l := by
 rcases h with h | ⟨b, h0, h1, h2, h3, h4⟩ | ⟨b, h0, h2, h3, h4⟩
 · exact .inl h
 · exact .inr (.inl ⟨b, h0, h1, Nat.lt_of_lt_of_le h2 k.nx, h3, (k.get b h2).trans h4⟩)
 · exact .inr (.inr ⟨b, h0, Nat.lt_of_lt_of_le h2 k.nx, h3, (k.get b h2).trans h4⟩)
theorem ivs_snoc (l : List Int) (z : Int) : ivs (l ++ [z]) = ivs l ++ [iv z] := by simp [ivs]
section
variable {O : CallF} {T : List AV} {H H0 : AH} {ops : Array Oper} {o : Oper} {i : Nat} {π : List Stp}
theorem WK.mem {K : List AV → AH → Prop} (P : AH → Prop) (h : P H) (hw : ∀ H, P H → WK (ENV O) ops H0 π T H K) : WK (ENV O) ops H0 π T H K := hw H h
theorem k_extract {K : List AV → AH → Prop} {x : Operand} {j : Nat} {vs : List AV} {v : AV} (h1 : ops.toList[i]? = some o) (ho : o.op = .extract x j) (hg : wantedA o ops T = true) (hx : av T x = .tup vs) (hv : vs[j]? = some v) (hk : WK (ENV O) ops H0 π (putA T o.dst v) H K) : WK (ENV O) ops H0 (.mob i :: π) T H K := by
 refine k_mob h1 hg (r := v) ?_ (fun b hb => by rw [rdA_none (by unfold looksB; rw [ho])] at hb; cases hb) hk
 unfold mobEval
 rw [ho]
 simp only [hx, hv]
end
theorem Ap.gr {H : AH} {r : AV} {l : List Int} (h : Ap H r l) (hne : l ≠ []) : Gr H 3 r (ivs l) := by
 rcases h with ⟨_, e⟩ | ⟨b, _, e, _⟩ | ⟨b, rfl, h1, h2, h3⟩
 · exact absurd e hne
 · exact absurd e hne
 · exact .inr ⟨b, h1, h2, by rw [ivs_length], h3⟩
theorem Sl.one {H : AH} {x : AV} {l : List AV} (h : Sl H x l) : x.one = true := by
 unfold Sl at h
 split at h
 · rfl
 · rfl
 · rfl
 · exact h.elim
end Go.Ev
namespace Go.Ev
open Go.Proofs
theorem drop_cons {l : List Int} {i : Nat} {z : Int} (h : l[i]? = some z) : l.drop i = z :: l.drop (i + 1) := by
 have hl := (List.getElem?_eq_some_iff.1 h).1
 rw [List.drop_eq_getElem_cons hl]
 congr 1
 exact (List.getElem?_eq_some_iff.1 h).2
section
variable {O : CallF} {T : List AV} {H H0 : AH} {ops : Array Oper} {o : Oper} {i : Nat} {π : List Stp}
end
variable {O : CallF} (hq : Quiet O)
include hq
theorem cThat (H : AH) (b : Bool) (e : Int) (K : AV → AH → Prop) (hk : K (iv (if b = true then 0 else e)) H) : Ca (ENV O) 70 [.v (.bool b), iv e] H K := by
 refine ca_intro (hq _ _ _ rfl) (fn := Tryz.f70) (by rfl) rfl ?_
 cases b with
 | true =>
   repeat (first | apply qN | refine qM rfl rfl ?_ | refine qT rfl ?_ | apply qR | apply qS)
   refine wp_ret ?_
   exact ⟨_, _, rfl, hk⟩
 | false =>
   repeat (first | apply qN | refine qM rfl rfl ?_ | refine qF rfl ?_ | apply qR | apply qS | apply qK)
   refine wp_ret ?_
   exact ⟨_, _, rfl, hk⟩
theorem cRange (H : AH) (n lo hi : Int) (K : AV → AH → Prop) (hk : K (iv (if inB n lo hi = true then 0 else 3)) H) : Ca (ENV O) 69 [iv n, iv lo, iv hi] H K := by
 refine ca_intro (hq _ _ _ rfl) (fn := Tryz.f69) (by rfl) rfl ?_
 repeat (first | apply qN | refine qM rfl rfl ?_ | apply qR | apply qS)
 refine wops_split 6 ?_
 refine WOps.mono (K := fun T' H' => H = H' ∧ ∃ (Y : List AV), T' = (lget Y 0 :: lget Y 1 :: lget Y 2 :: lget Y 3 :: lget Y 4 :: lget Y 5 :: lget Y 6 :: lget Y 7 :: lget Y 8 :: lget Y 9 :: lget Y 10 :: lget Y 11 :: lget Y 12 :: lget Y 13 :: .v (.bool (inB n lo hi)) :: lget Y 14 :: [])) ?_ ?_
 · refine wops_cons (wop_cmp rfl rfl rfl rfl rfl (fun h => ?_) (fun h => ?_))
   · have h1 : lo ≤ n := of_decide_eq_true h
     clear h
     repeat (first | refine qM rfl rfl ?_)
     refine wops_cons (wop_cmp rfl rfl rfl rfl rfl (fun h => ?_) (fun h => ?_))
     · have h2 : n ≤ hi := of_decide_eq_true h
       rw [show inB n lo hi = true by simp [inB, h1, h2]]
       repeat (first | apply qN | refine zq7 rfl rfl rfl ?_)
       exact ⟨rfl, [_,_,_,_,_,_,_,_,_,_,_,_,_,_,_], rfl⟩
     · have h2 : ¬ n ≤ hi := of_decide_eq_false h
       rw [show inB n lo hi = false by simp [inB, h1, h2]]
       repeat (first | apply qN | refine zq7 rfl rfl rfl ?_)
       exact ⟨rfl, [_,_,_,_,_,_,_,_,_,_,_,_,_,_,_], rfl⟩
   · have h1 : ¬ lo ≤ n := of_decide_eq_false h
     rw [show inB n lo hi = false by simp [inB, h1]]
     repeat (first | apply qN | refine zq1 rfl rfl ?_ | refine qM rfl rfl ?_ | refine zq7 rfl rfl rfl ?_)
     exact ⟨rfl, [_,_,_,_,_,_,_,_,_,_,_,_,_,_,_], rfl⟩
 rintro T' H' ⟨rfl, Y, rfl⟩
 refine wops_cons (wop_callF rfl rfl rfl (fn := Tryz.f70) (by rfl) ?_)
 refine cThat hq H (inB n lo hi) 3 _ ⟨Nat.le_refl _, ?_⟩
 repeat (first | apply qN | refine qM rfl rfl ?_)
 refine wp_ret ?_
 exact ⟨_, _, rfl, hk⟩
theorem cFirst (H : AH) (x : AV) (l : List Int) (hx : Sl H x (ivs l)) (hlen : l.length ≤ 1000) (K : AV → AH → Prop) (hk : K (iv (firstNZ l)) H) : Ca (ENV O) 68 [x] H K := by
 refine ca_intro (hq _ _ _ rfl) (fn := Tryz.f68) (by rfl) rfl ?_
 repeat (first | apply qN | refine qM rfl rfl ?_ | refine zq5 rfl rfl rfl rfl rfl ‹_› ?_ | apply qR | apply qS | apply qB)
 refine wp_loop (fun q T M H' => ∃ (i : Nat) (Y : List AV), q = l.length - i ∧ i ≤ l.length ∧ firstNZ l = firstNZ (l.drop i) ∧ H' = H ∧ M = [] ∧ T = (lget Y 0 :: lget Y 1 :: lget Y 2 :: lget Y 3 :: lget Y 4 :: x :: iv l.length :: iv (i : Nat) :: lget Y 5 :: lget Y 6 :: lget Y 7 :: lget Y 8 :: lget Y 9 :: lget Y 10 :: lget Y 11 :: [])) l.length
   ⟨0, [_,_,_,_,_,_,_,_,_,_,_,_], rfl, Nat.zero_le _, rfl, rfl, rfl, rfl⟩ ?_
 rintro q T M H' ⟨i, Y, hq1, hi, hsw, rfl, rfl, rfl⟩
 repeat (first | apply qR | apply qS)
 refine wops_cons (wop_cmp rfl rfl rfl rfl rfl (fun h => ?_) (fun h => ?_))
 rotate_left
 · have h : ¬ ((i : Int) < l.length) := of_decide_eq_false h
   have e : i = l.length := by omega
   rw [hsw, e, List.drop_length] at hk
   repeat (first | apply qN | refine qM rfl rfl ?_ | refine qF rfl ?_ | apply qR | apply qS | apply qE)
   refine wp_ret ?_
   exact ⟨_, _, rfl, hk⟩
 have h : (i : Int) < l.length := of_decide_eq_true h
 obtain ⟨z, hz⟩ := l_some (show i < l.length by omega)
 rw [drop_cons hz, firstNZ_cons] at hsw
 repeat (first | apply qN | refine qT rfl ?_ | apply qR | apply qS | apply qK | apply qB)
 refine wops_cons (o_indexI rfl rfl hx rfl hz fun p hp => ?_)
 repeat (first | apply qN | refine qM rfl rfl ?_ | refine zq6 rfl rfl ‹_› ?_ | apply qR | apply qS)
 refine wops_cons (wop_cmp rfl rfl rfl rfl rfl (fun h => ?_) (fun h => ?_))
 · have h : z ≠ 0 := by simpa using h
   rw [hsw, if_pos h] at hk
   repeat (first | apply qN | refine qM rfl rfl ?_ | refine qT rfl ?_ | apply qR | apply qS)
   refine wp_ret ?_
   exact ⟨_, _, rfl, hk⟩
 have h : ¬ z ≠ 0 := by simpa using h
 rw [if_neg h] at hsw
 repeat (first | apply qN | refine qM rfl rfl ?_ | refine zq4 rfl rfl rfl rfl (inc (by omega)) ?_ | refine qF rfl ?_ | apply qR | apply qK)
 exact ⟨l.length - (i + 1), by omega, i + 1, [_,_,_,_,_,_,_,_,_,_,_,_], rfl, by omega, hsw, rfl, rfl, rfl⟩
end Go.Ev
