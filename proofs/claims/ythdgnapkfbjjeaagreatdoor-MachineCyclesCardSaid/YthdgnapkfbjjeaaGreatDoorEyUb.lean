/- Part of an evaluator of calls that is proved sound, and of what it gives about this program. No condition of its own. -/
import Derived.Test.YthdgnapkfbjjeaaGreatDoorEzKf
set_option linter.unusedVariables false
set_option linter.unusedSimpArgs false
set_option linter.unusedSectionVars false
set_option maxRecDepth 100000
set_option maxHeartbeats 4000000
namespace Go.Ev
open Go.Proofs
def bvs (n : Nat) (V : Nat → Bool) : List AV := (List.range n).map fun y => .v (.bool (V y))
theorem bvs_length (n : Nat) (V : Nat → Bool) : (bvs n V).length = n := by simp [bvs]
theorem bvs_get {n i : Nat} {V : Nat → Bool} (h : i < n) : (bvs n V)[i]? = some (.v (.bool (V i))) := by simp [bvs, h]
theorem bvs_rep (n : Nat) : List.replicate n (AV.v (.bool false)) = bvs n fun _ => false := by
 unfold bvs
 rw [List.map_const', List.length_range]
theorem bvs_set {n k : Nat} {V : Nat → Bool} : (bvs n V).set k (.v (.bool true)) = bvs n fun y => V y || decide (y = k) := by
 refine List.ext_getElem? fun j => ?_
 rw [List.getElem?_set]
 by_cases hj : j < n
 · by_cases e : k = j
   · subst e; simp [bvs, hj]
   · have e2 : ¬ j = k := fun h => e h.symm
     simp [bvs, hj, e, e2]
 · have h1 : (bvs n V)[j]? = none := List.getElem?_eq_none (by rw [bvs_length]; omega)
   have h2 : (bvs n fun y => V y || decide (y = k))[j]? = none := List.getElem?_eq_none (by rw [bvs_length]; omega)
   rw [h1, h2]
   by_cases e : k = j
   · subst e; simp [bvs, hj]
   · simp [e]
section
variable {f : Nat → Nat} {n : Nat}
theorem Pm.vis_it (h : Pm f n) {i : Nat} (hi : i < n) (hv : vis f n i i = false) (k : Nat) : vis f n i (it f k i) = false := by
 cases hc : vis f n i (it f k i) with
 | false => rfl
 | true =>
   obtain ⟨t, ht, hm⟩ := vis_iff.1 hc
   have h1 : it f k i ∈ orb f n i := (h.mem_orb hi).2 ⟨k, rfl⟩
   have h2 := h.orb_symm hi h1
   have h3 := h.orb_trans (by omega) hm h2
   rw [vis_iff.2 ⟨t, ht, h3⟩] at hv
   cases hv
theorem orb_take_succ {i k : Nat} (hk : k < per f n i) : (orb f n i).take (k + 1) = (orb f n i).take k ++ [it f k i] := by
 rw [List.take_add_one, orb_get hk]; rfl
theorem orb_take_all (i : Nat) : (orb f n i).take (per f n i) = orb f n i := List.take_of_length_le (by rw [orb_length]; exact Nat.le_refl _)
theorem orb_take_len {i k : Nat} (hk : k ≤ per f n i) : ((orb f n i).take k).length = k := by rw [List.length_take, orb_length]; omega
end
theorem CycR.low {H : AH} {lo lo' : Nat} {s : AV} {cyc : List AV} {os : List (List Nat)} (h : CycR H lo s cyc os) (hl : lo' ≤ lo) : CycR H lo' s cyc os :=
 ⟨h.1, fun j c o hc ho => ⟨(h.2 j c o hc ho).1, fun b hb => by have := (h.2 j c o hc ho).2 b hb; exact ⟨by omega, this.2⟩⟩⟩
variable {O : CallF} (hq : Quiet O)
include hq
end Go.Ev
namespace Go.Ev
open Go.Proofs
def statJ (ops : Array Oper) (π : List Stp) (j : Nat) : Bool := (mobsOf π).all fun i => (match ops.toList[i]? with | some o => !looksB o | none => false) || waitsB ops j i
def WDC (E : Env) (ops : Array Oper) (H0 : AH) (π0 : List Stp) (B : Nat → Prop) : List Stp → List AV → AH → (List AV → AH → Prop) → Prop
 | [], T, H, K => K T H
 | .mob i :: π, T, H, K => i ∈ mobsOf π0 ∧ (∀ o b, ops.toList[i]? = some o → rdA T o = some b → B b) ∧ WDr E ops H0 [.mob i] T H (fun T' H' => H' = H ∧ WDC E ops H0 π0 B π T' H K)
 | .loud i :: π, T, H, K => WDr E ops H0 [.loud i] T H (fun T' H' => (statJ ops π0 i = true ∨ ∀ b, B b → sameBlk (H'.get b) (H0.get b) = true) ∧ WDC E ops H0 π0 B π T' H' K)
 | .alc _ :: _, _, _, _ => False
section
variable {E : Env} {g : FuncId} {rd : Bool} {T : List AV} {M : List Nat} {H H0 : AH} {Q : QX} {ops : Array Oper}
theorem wdc_ev {π0 : List Stp} {B : Nat → Prop} {K : List AV → AH → Prop} : ∀ {π : List Stp} {T : List AV} {H : AH}, WDC E ops H0 π0 B π T H K → ∃ n T' H' L Hs, evDraw E.P E.F (E.evCall n) ops H0 π T H = some (T', H', L, Hs) ∧ K T' H' ∧ (∀ q ∈ Hs, statJ ops π0 q.1 = true ∨ ∀ b, B b → sameBlk (q.2.get b) (H0.get b) = true) ∧
   (∀ p ∈ L, p.1 ∈ mobsOf π0 ∧ (∃ o, ops.toList[p.1]? = some o ∧ (looksB o = false → p.2 = none)) ∧ ∀ b, p.2 = some b → B b)
 | [], T, H, h => ⟨0, T, H, [], [], rfl, h, fun _ h => by simp at h, fun _ h => by simp at h⟩
 | .mob i :: π, T, H, ⟨hi, hb, o, r, h1, h2, _, h3⟩ => by
   obtain ⟨n, T', H', L, Hs, k1, k2, k3, k4⟩ := wdc_ev h3
   rcases h2 with ⟨h2, rfl⟩ | ⟨h2, h4⟩
   · refine ⟨n, T', H', L, Hs, ?_, k2, k3, k4⟩
     simp only [evDraw, opT h1, h2]
     exact k1
   · refine ⟨n, T', H', (i, rdA T o) :: L, Hs, ?_, k2, k3, fun p hp => ?_⟩
     · simp only [evDraw, opT h1, h2, h4, k1]
     · rcases List.mem_cons.1 hp with rfl | hp
       · exact ⟨hi, ⟨o, h1, fun h => rdA_none h⟩, fun b hb' => hb o b h1 hb'⟩
       · exact k4 p hp
 | .loud i :: π, T, H, ⟨o, h1, n, r, H1, h2, h5, h3⟩ => by
   obtain ⟨m, T', H', L, Hs, k1, k2, k3, k4⟩ := wdc_ev h3
   refine ⟨n + m, T', H', L, (i, H1) :: Hs, ?_, k2, fun q hq => ?_, k4⟩
   · simp only [evDraw, opT h1]
     rw [evOp_le (evCall_le (Nat.le_add_right n m)) h2]
     simp only
     rw [evDraw_le (evCall_le (Nat.le_add_left m n)) k1]
   · rcases List.mem_cons.1 hq with rfl | hq
     · exact h5
     · exact k3 q hq
 | .alc _ :: _, _, _, h => h.elim
theorem wp_drawC (B : Nat → Prop) {id : Nat} {π : List Stp} (hp : E.pl.get (planKey g id) = some π) (h : WDC E ops H π B π T H fun T' H' => Q .normal T' M H') : Wp E g rd (.region id ops true) T M H Q := by
 obtain ⟨n, T', H', L, Hs, k1, k2, k3, k4⟩ := wdc_ev h
 refine ⟨n + 1, _, T', M, H', ?_, k2⟩
 show Ev.ev E.P E.F E.O E.pl (n + 1) g rd (.region id ops true) T M H = _
 rw [ev_draw, hp]
 simp only
 unfold evRegion
 rw [show evDraw E.P E.F (Ev.evCall E.P E.F E.O E.pl n) ops H π T H = _ from k1]
 have : (Hs.all fun q => keptB ops H L q.1 q.2) = true := by
   rw [List.all_eq_true]
   intro q hq
   unfold keptB
   rw [List.all_eq_true]
   intro p hp
   obtain ⟨h0, ⟨o, h1, h2⟩, h3⟩ := k4 p hp
   cases hb : p.2 with
   | none => rfl
   | some b =>
     rcases k3 q hq with hst | hst
     · have hst := List.all_eq_true.1 hst p.1 h0
       rw [h1] at hst
       cases hl : looksB o with
       | false => rw [h2 hl] at hb; cases hb
       | true =>
         simp only [hl, Bool.not_true, Bool.false_or] at hst
         simp [hst]
     · simp [hst b (h3 b hb)]
 simp only [this, if_true]
variable {π0 π : List Stp} {B : Nat → Prop} {i : Nat} {K : List AV → AH → Prop}
theorem wc_nil (h : K T H) : WDC E ops H0 π0 B [] T H K := h
theorem wc_mob (hi : i ∈ mobsOf π0) (h : WDr E ops H0 [.mob i] T H (fun T' H' => H' = H ∧ WDC E ops H0 π0 B π T' H K)) (hb : ∀ o b, ops.toList[i]? = some o → rdA T o = some b → B b) : WDC E ops H0 π0 B (.mob i :: π) T H K := ⟨hi, hb, h⟩
theorem wc_mob0 {o : Oper} (hi : i ∈ mobsOf π0) (h1 : ops.toList[i]? = some o) (hl : looksB o = false) (h : WDr E ops H0 [.mob i] T H (fun T' H' => H' = H ∧ WDC E ops H0 π0 B π T' H K)) : WDC E ops H0 π0 B (.mob i :: π) T H K :=
 ⟨hi, fun o' b h2 hb => (by rw [h1] at h2; cases h2; rw [rdA_none hl] at hb; cases hb), h⟩
theorem wc_loud (h : WDr E ops H0 [.loud i] T H (fun T' H' => (statJ ops π0 i = true ∨ ∀ b, B b → sameBlk (H'.get b) (H0.get b) = true) ∧ WDC E ops H0 π0 B π T' H' K)) : WDC E ops H0 π0 B (.loud i :: π) T H K := h
end
section
variable {O : CallF} {T : List AV} {H H0 : AH} {ops : Array Oper} {o : Oper} {i : Nat} {π0 π : List Stp} {K : List AV → AH → Prop}
def AnyB : Nat → Prop := fun _ => True
theorem wc_move {x : Operand} (hi : i ∈ mobsOf π0) (h1 : ops.toList[i]? = some o) (ho : o.op = .move x) (hg : wantedA o ops T = true) (hk : WDC (ENV O) ops H0 π0 AnyB π (putA T o.dst (av T x)) H K) : WDC (ENV O) ops H0 π0 AnyB (.mob i :: π) T H K :=
 wc_mob hi (wd_move h1 ho hg ⟨rfl, hk⟩) (fun _ _ _ _ => trivial)
theorem wc_index {t e : TypeId} {x y : Operand} {j : Nat} {l : List AV} {v : AV} (hi : i ∈ mobsOf π0) (h1 : ops.toList[i]? = some o) (ho : o.op = .indexAddr t x y) (hg : wantedA o ops T = true) [hu : TyS t e] [hs : Cell e] (hx : Sl H0 (av T x) l) (hy : av T y = iv j) (hl : l[j]? = some v)
   (hk : ∀ p, At H0 p v → WDC (ENV O) ops H0 π0 AnyB π (putA T o.dst p) H K) : WDC (ENV O) ops H0 π0 AnyB (.mob i :: π) T H K :=
 wc_mob hi (d_index h1 ho hg hx hy hl fun p hp => ⟨rfl, hk p hp⟩) (fun _ _ _ _ => trivial)
theorem wc_load {t : TypeId} {x : Operand} {v : AV} (hi : i ∈ mobsOf π0) (h1 : ops.toList[i]? = some o) (ho : o.op = .load t x) (hg : wantedA o ops T = true) [ha : Cell t] (hx : At H0 (av T x) v) (hk : WDC (ENV O) ops H0 π0 AnyB π (putA T o.dst v) H K) : WDC (ENV O) ops H0 π0 AnyB (.mob i :: π) T H K :=
 wc_mob hi (d_load h1 ho hg hx ⟨rfl, hk⟩) (fun _ _ _ _ => trivial)
theorem wc_bin {op : BinOp} {t yt : TypeId} {x y : Operand} {k : IntKind} {a b : Int} {v : Value} (hi : i ∈ mobsOf π0) (h1 : ops.toList[i]? = some o) (ho : o.op = .binOp op t x y yt) (hg : wantedA o ops T = true) (hx : av T x = .v (.int k a)) (hy : av T y = .v (.int k b)) (hv : binI op k k a b = some v) (hk : WDC (ENV O) ops H0 π0 AnyB π (putA T o.dst (.v v)) H K) : WDC (ENV O) ops H0 π0 AnyB (.mob i :: π) T H K :=
 wc_mob hi (wd_bin h1 ho hg hx hy hv ⟨rfl, hk⟩) (fun _ _ _ _ => trivial)
theorem wc_pick {c x y : Operand} {b : Bool} (hi : i ∈ mobsOf π0) (h1 : ops.toList[i]? = some o) (ho : o.op = .pick c x y) (hg : wantedA o ops T = true) (hc : av T c = .v (.bool b)) (hk : WDC (ENV O) ops H0 π0 AnyB π (putA T o.dst (bif b then av T x else av T y)) H K) : WDC (ENV O) ops H0 π0 AnyB (.mob i :: π) T H K :=
 wc_mob hi (wd_pick h1 ho hg hc ⟨rfl, hk⟩) (fun _ _ _ _ => trivial)
end
section
variable {O : CallF} {T : List AV} {H H0 : AH} {ops : Array Oper} {o : Oper} {i : Nat} {π0 π : List Stp} {K : List AV → AH → Prop}
theorem wc_rem {t yt : TypeId} {x y : Operand} {k : IntKind} {a b : Int} (hi : i ∈ mobsOf π0) (h1 : ops.toList[i]? = some o) (ho : o.op = .binOp .rem t x y yt) (hg : wantedA o ops T = true) (hx : av T x = .v (.int k a)) (hy : av T y = .v (.int k b)) (hb : b ≠ 0) (hk : WDC (ENV O) ops H0 π0 AnyB π (putA T o.dst (.v (.int k (a.tmod b)))) H K) : WDC (ENV O) ops H0 π0 AnyB (.mob i :: π) T H K :=
 wc_mob hi (wd_rem h1 ho hg hx hy hb ⟨rfl, hk⟩) (fun _ _ _ _ => trivial)
end
end Go.Ev
namespace Go.Ev
open Go.Proofs
section
variable {O : CallF} {T : List AV} {H H0 : AH} {ops : Array Oper} {o : Oper} {i : Nat} {π0 π : List Stp} {K : List AV → AH → Prop}
theorem wc_indexOwn {t e : TypeId} {x y : Operand} {j : Nat} {b n cap : Nat} (hi : i ∈ mobsOf π0) (h1 : ops.toList[i]? = some o) (ho : o.op = .indexAddr t x y) (hg : wantedA o ops T = true) [hu : TyS t e] [hs : Cell e] (hx : av T x = .slc b 0 n cap) (hy : av T y = iv j) (hl : j < n)
   (hk : WDC (ENV O) ops H0 π0 AnyB π (putA T o.dst (.ptr b j)) H K) : WDC (ENV O) ops H0 π0 AnyB (.mob i :: π) T H K :=
 wc_mob hi (d_indexOwn h1 ho hg hx hy hl ⟨rfl, hk⟩) (fun _ _ _ _ => trivial)
end
variable {O : CallF} (hq : Quiet O)
include hq
end Go.Ev
