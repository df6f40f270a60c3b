/- Part of an evaluator of calls that is proved sound, and of what it gives about this program. No condition of its own. -/
import Derived.Test.YtjkgjemcmmgefaaGreatDoorEvNi
import Derived.Test.YtjkgjemcmmgefaaGreatDoorEwI4
set_option linter.unusedVariables false
set_option linter.unusedSimpArgs false
set_option linter.unusedSectionVars false
set_option maxRecDepth 1000000
set_option maxHeartbeats 8000000
namespace Go.Ev
open Go.Proofs
theorem wop_boxA {E : Env} {T : List AV} {H : AH} {ops : Array Oper} {o : Oper} {K : AV → AH → Prop} {t : TypeId} {x : Operand} {cs : List AV} (ho : o.op = .box t x) (hg : wantedA o ops T = true) (hx : (av T x).cells = cs) (hr : H.next < 2 ^ 39) (hk : K (.ptr H.next 0) (H.add (.cells cs t 0))) : WOp E ops o T H K := by
  refine wop_val (by rw [ho]; rfl) hg (H' := H.add (.cells cs t 0)) (r := .ptr H.next 0) ?_ (Nat.le_succ _) hk
  unfold opEval; rw [ho]
  have hlt : Nat.blt H.next (2 ^ 39) = true := Nat.ble_eq_true_of_le hr
  simp only [boxA, hx, newA, hlt, if_true, Option.map_some]
theorem wops_split {E : Env} {ops : Array Oper} : ∀ (n : Nat) {l : List Oper} {T : List AV} {H : AH} {K : List AV → AH → Prop}, WOps E ops (l.take n) T H (fun T' H' => WOps E ops (l.drop n) T' H' K) → WOps E ops l T H K
  | 0, l, T, H, K, h => by
    obtain ⟨k, T', H', h1, h2⟩ := h
    rw [List.take_zero] at h1
    have h1 : some (T, H) = some (T', H') := h1
    cases h1
    exact h2
  | n + 1, [], T, H, K, h => by
    obtain ⟨k, T', H', h1, h2⟩ := h
    have h1 : some (T, H) = some (T', H') := h1
    cases h1
    exact h2
  | n + 1, o :: l, T, H, K, h => by
    obtain ⟨k, T', H', h1, h2⟩ := h
    rw [List.take_succ_cons, evOpsY_cons] at h1
    split at h1
    · rename_i r H1 hop
      exact wops_cons ⟨k, r, H1, hop, wops_split n ⟨k, T', H', h1, h2⟩⟩
    · cases h1
theorem wop_indexP {E : Env} {T : List AV} {H : AH} {ops : Array Oper} {o : Oper} {K : AV → AH → Prop} {t e : TypeId} {n : Nat} {x i : Operand} {kd : IntKind} {j b off : Nat} (ho : o.op = .indexAddr t x i) (hg : wantedA o ops T = true) (hu : runPure E.P (underlying t) = some (.array n e)) (hs : runPure E.P (sizeOf e) = some 1)
    (hx : av T x = .ptr b off) (hi : av T i = .v (.int kd (j : Int))) (hl : j < n) (hk : K (.ptr b (off + j)) H) : WOp E ops o T H K := by
  refine wop_val (by rw [ho]; rfl) hg (r := .ptr b (off + j)) ?_ (Nat.le_refl _) hk
  unfold opEval; rw [ho]
  have hm : indexAddrA E.P t (.ptr b off) (.v (.int kd (j : Int))) = some (.ptr b (off + j)) := by
    unfold indexAddrA
    simp only [natA, hu, hs, Nat.mul_one]
    rw [if_pos (show Nat.blt j n = true from Nat.ble_eq_true_of_le (show j + 1 ≤ n by omega))]
  simp only [oIndexAddr, hx, hi, isV, hm, rv]
class TyA (t : TypeId) (n : outParam Nat) (e : outParam TypeId) : Prop where
  u : runPure Tryz.prog (underlying t) = some (.array n e)
instance : TyA 49 2 3 := ⟨by kernel_rfl⟩
theorem o_indexP {O : CallF} {T : List AV} {H : AH} {ops : Array Oper} {o : Oper} {K : AV → AH → Prop} {t e : TypeId} {n : Nat} {x i : Operand} {j b off : Nat} (ho : o.op = .indexAddr t x i) (hg : wantedA o ops T = true) [hu : TyA t n e] [hs : Cell e]
    (hx : av T x = .ptr b off) (hi : av T i = iv (j : Int)) (hl : j < n) (hk : K (.ptr b (off + j)) H) : WOp (ENV O) ops o T H K := wop_indexP ho hg hu.u hs.s hx hi hl hk
theorem weight_all {l : List Int} (h : weightE l = 0) : 0 < l.length ∧ l.length ≤ 256 ∧ (∀ z ∈ l, wOk z) ∧ 0 < sumL l ∧ sumL l ≤ 256 * 999999999 := by
  have h1 : ¬ l.length = 0 := fun e => by rw [weightE, if_pos e] at h; cases h
  have h2 : ¬ 256 < l.length := fun e => by rw [weightE_many e] at h; cases h
  have h3 : ¬ ∃ z ∈ l, ¬ wOk z := fun e => by rw [weightE_bad h1 (by omega) e] at h; cases h
  have hw : ∀ z ∈ l, wOk z := fun z hz => Classical.byContradiction fun hb => h3 ⟨z, hz, hb⟩
  rw [weightE_zero h1 (by omega) h3] at h
  have hb := sumL_bound (l := l) (i := l.length) (fun j z _ hz => hw z (List.mem_of_getElem? hz)) (Nat.le_refl _)
  rw [List.take_length] at hb
  have h4 : sumL l ≠ 0 := fun e => by rw [if_pos e] at h; cases h
  exact ⟨by omega, by omega, hw, by omega, by omega⟩
variable {O : CallF} (hq : Quiet O)
include hq
theorem c26x (H1 : AH) (x : AV) (l : List Int) (total : Int) (hx1 : Sl H1 x (ivs l)) (hox1 : Old H1 x) (hr : H1.next + 100 < 2 ^ 39) : Ca (ENV O) 26 [iv total, x] H1 (fun r H2 => Keeps H1 H2 ∧ H2.next ≤ H1.next + 10 ∧ ∃ (c : AV) (s : List Int) (e : Int), r = .tup [c, iv e] ∧ Sl H2 c (ivs s) ∧ Old H2 c ∧
      ((¬ ((0 ≤ total ∧ total ≤ 999999999) ∧ weightE l = 0) ∧ s = [] ∧ e = (if 0 ≤ total ∧ total ≤ 999999999 then weightE l else 3)) ∨
       (((0 ≤ total ∧ total ≤ 999999999) ∧ weightE l = 0) ∧ e = 0 ∧ ∃ g' : Nat → Int, s = bump (quoL total (sumL l) l) ((fl g' l.length).take (total - sumL (quoL total (sumL l) l)).toNat) ∧ Sd (RS (remL total (sumL l) l)) g' 0 l.length ∧ (seg g' 0 l.length).Perm (seg idn 0 l.length)))) := by
  by_cases hok : (0 ≤ total ∧ total ≤ 999999999) ∧ weightE l = 0
  · obtain ⟨hl0, hl256, hwz, hs0, hsm⟩ := weight_all hok.2
    have hW : Wts l total := ⟨fun z hz => (hwz z hz).1, hok.1.1, hs0⟩
    exact c26g hq H1 x l total hx1 hox1 hok.1 hok.2 hl0 hl256 hwz hs0 hsm hW.quo_le (fun i _ => hW.take i) (by obtain ⟨m, h1, _, h2⟩ := hW.left; omega) (by omega) _ fun H2 c g' k2 n2 hs2 sd pm o2 => ⟨k2, n2, c, _, 0, rfl, hs2, o2, .inr ⟨hok, rfl, g', rfl, sd, pm⟩⟩
  · exact c26e hq H1 x l total hx1 hok _ ⟨Keeps.refl _, by omega, _, [], _, rfl, ⟨rfl, .inl rfl⟩, Old.v _, .inl ⟨hok, rfl, rfl⟩⟩
theorem c29x (hins : ∀ args H, O 65 args H = insO 65 3 65 args H) (H1 : AH) (key n : Int) (hr : H1.next + 600 < 2 ^ 39) : Ca (ENV O) 29 [iv key, iv n] H1 (fun r H2 => Keeps H1 H2 ∧ H2.next ≤ H1.next + 520 ∧ ∃ (c : AV) (s : List Int) (e : Int), r = .tup [c, iv e] ∧ Sl H2 c (ivs s) ∧ Old H2 c ∧
      ((¬ (1 ≤ key ∧ key ≤ 2147483646 ∧ 0 ≤ n ∧ n ≤ 256) ∧ s = [] ∧ e = 3) ∨ ((1 ≤ key ∧ key ≤ 2147483646 ∧ 0 ≤ n ∧ n ≤ 256) ∧ e = 0 ∧ s = drawL key n.toNat))) := by
  by_cases hok : 1 ≤ key ∧ key ≤ 2147483646 ∧ 0 ≤ n ∧ n ≤ 256
  · have hn := hok.2.2.1
    have hn2 := hok.2.2.2
    obtain ⟨m, rfl⟩ := Int.eq_ofNat_of_zero_le hn
    exact c29 hq hins H1 key m ⟨hok.1, hok.2.1⟩ (by omega) (by omega) _ fun H2 c k2 n2 hs2 o2 => ⟨k2, n2, c, _, 0, rfl, hs2, o2, .inr ⟨hok, rfl, rfl⟩⟩
  · exact c29e hq H1 key n hok _ ⟨Keeps.refl _, by omega, _, [], _, rfl, ⟨rfl, .inl rfl⟩, Old.v _, .inl ⟨hok, rfl, rfl⟩⟩
theorem c5 (hins : ∀ args H, O 65 args H = insO 65 3 65 args H) (H : AH) (hA : ∀ H', H'.gl = H.gl → O 8 [] H' = some (.v (.bool true), H')) (x : AV) (l : List Int) (total key n : Int) (hx : Sl H x (ivs l)) (ho : Old H x) (hr : H.next + 10000 < 2 ^ 39) (K : AV → AH → Prop) (hk : ∀ H', K (.v (.bool true)) H') : Ca (ENV O) 5 [iv total, x, .v (.agg #[.int .i64 key, .int .i64 n])] H K := by
  refine ca_intro (hq _ _ _ rfl) (fn := Tryz.f5) (by rfl) rfl ?_
  have r0 : H.next < 2 ^ 39 := by omega
  repeat (first | refine wops_nil ?_ | refine zq1 rfl rfl ?_ | refine zq2 rfl rfl ?_ | refine zq3 rfl rfl ?_ | refine zq4 rfl rfl rfl rfl (inc (by omega)) ?_ | refine zq5 rfl rfl rfl rfl rfl (by assumption) ?_ | refine zq6 rfl rfl (by assumption) ?_ | refine zq7 rfl rfl rfl ?_ | refine zq8 rfl rfl rfl ?_ | refine zq9 rfl rfl rfl rfl ?_ | refine wp_condT rfl ?_ | refine wp_condF rfl ?_ | refine wp_region ?_ | refine wp_seq ?_ | refine wp_skip ?_ | refine wp_exit ?_ | refine wp_block ?_)
  refine wops_cons (wop_boxA (cs := [iv key, iv n]) rfl rfl rfl r0 ?_)
  have k1 := (Keeps.refl H).add (.cells [iv key, iv n] 49 0) r0
  have g1 : (H.add (.cells [iv key, iv n] 49 0)).get H.next = some (.cells [iv key, iv n] 49 0) := get_add_eq r0
  have hx1 := hx.keep ho k1
  have n1 : (H.add (.cells [iv key, iv n] 49 0)).next = H.next + 1 := rfl
  have e1 : (H.add (.cells [iv key, iv n] 49 0)).gl = H.gl := rfl
  refine WOps.H (H' := H.add (.cells [iv key, iv n] 49 0)) rfl ?_
  generalize H.add (.cells [iv key, iv n] 49 0) = H1 at k1 g1 hx1 n1 e1 ⊢
  repeat (first | refine wops_nil ?_ | refine zq1 rfl rfl ?_ | refine zq2 rfl rfl ?_ | refine zq3 rfl rfl ?_ | refine zq4 rfl rfl rfl rfl (inc (by omega)) ?_ | refine zq5 rfl rfl rfl rfl rfl (by assumption) ?_ | refine zq6 rfl rfl (by assumption) ?_ | refine zq7 rfl rfl rfl ?_ | refine zq8 rfl rfl rfl ?_ | refine zq9 rfl rfl rfl rfl ?_ | refine wp_condT rfl ?_ | refine wp_condF rfl ?_ | refine wp_region ?_ | refine wp_seq ?_ | refine wp_skip ?_ | refine wp_exit ?_ | refine wp_block ?_)
  refine WOps.cut (fun T => ∃ Y : List AV, T = (iv total :: x :: lget Y 0 :: lget Y 1 :: lget Y 2 :: .ptr H.next 0 :: .v (.bool false) :: lget Y 3 :: lget Y 4 :: lget Y 5 :: lget Y 6 :: lget Y 7 :: lget Y 8 :: lget Y 9 :: lget Y 10 :: lget Y 11 :: lget Y 12 :: lget Y 13 :: lget Y 14 :: lget Y 15 :: lget Y 16 :: lget Y 17 :: lget Y 18 :: lget Y 19 :: lget Y 20 :: lget Y 21 :: lget Y 22 :: lget Y 23 :: lget Y 24 :: lget Y 25 :: lget Y 26 :: lget Y 27 :: lget Y 28 :: lget Y 29 :: lget Y 30 :: lget Y 31 :: lget Y 32 :: lget Y 33 :: lget Y 34 :: lget Y 35 :: lget Y 36 :: lget Y 37 :: lget Y 38 :: lget Y 39 :: lget Y 40 :: lget Y 41 :: lget Y 42 :: lget Y 43 :: lget Y 44 :: lget Y 45 :: lget Y 46 :: lget Y 47 :: lget Y 48 :: lget Y 49 :: lget Y 50 :: lget Y 51 :: lget Y 52 :: lget Y 53 :: lget Y 54 :: lget Y 55 :: lget Y 56 :: lget Y 57 :: lget Y 58 :: lget Y 59 :: lget Y 60 :: lget Y 61 :: lget Y 62 :: lget Y 63 :: lget Y 64 :: lget Y 65 :: lget Y 66 :: lget Y 67 :: lget Y 68 :: lget Y 69 :: lget Y 70 :: lget Y 71 :: lget Y 72 :: lget Y 73 :: lget Y 74 :: lget Y 75 :: lget Y 76 :: lget Y 77 :: lget Y 78 :: lget Y 79 :: lget Y 80 :: lget Y 81 :: [])) ⟨[_,_,_,_,_,_,_,_,_,_,_,_,_,_,_,_,_,_,_,_,_,_,_,_,_,_,_,_,_,_,_,_,_,_,_,_,_,_,_,_,_,_,_,_,_,_,_,_,_,_,_,_,_,_,_,_,_,_,_,_,_,_,_,_,_,_,_,_,_,_,_,_,_,_,_,_,_,_,_,_,_,_], rfl⟩ ?_
  rintro T ⟨Y, rfl⟩
  refine wops_cons (wop_callF rfl rfl rfl (fn := Tryz.f8) (by rfl) ?_)
  refine ca_oracle (hA _ e1) ⟨Nat.le_refl _, ?_⟩
  repeat (first | refine wops_nil ?_ | refine zq1 rfl rfl ?_ | refine zq2 rfl rfl ?_ | refine zq3 rfl rfl ?_ | refine zq4 rfl rfl rfl rfl (inc (by omega)) ?_ | refine zq5 rfl rfl rfl rfl rfl (by assumption) ?_ | refine zq6 rfl rfl (by assumption) ?_ | refine zq7 rfl rfl rfl ?_ | refine zq8 rfl rfl rfl ?_ | refine zq9 rfl rfl rfl rfl ?_ | refine wp_condT rfl ?_ | refine wp_condF rfl ?_ | refine wp_region ?_ | refine wp_seq ?_ | refine wp_skip ?_ | refine wp_exit ?_ | refine wp_block ?_)
  refine wops_cons (wop_cmp rfl rfl rfl rfl rfl (fun h => ?_) (fun h => ?_))
  · repeat (first | refine wops_nil ?_ | refine zq1 rfl rfl ?_ | refine zq2 rfl rfl ?_ | refine zq3 rfl rfl ?_ | refine zq4 rfl rfl rfl rfl (inc (by omega)) ?_ | refine zq5 rfl rfl rfl rfl rfl (by assumption) ?_ | refine zq6 rfl rfl (by assumption) ?_ | refine zq7 rfl rfl rfl ?_ | refine zq8 rfl rfl rfl ?_ | refine zq9 rfl rfl rfl rfl ?_ | refine wp_condT rfl ?_ | refine wp_condF rfl ?_ | refine wp_region ?_ | refine wp_seq ?_ | refine wp_skip ?_ | refine wp_exit ?_ | refine wp_block ?_)
    refine wops_cons (wop_callF rfl rfl rfl (fn := Tryz.f8) (by rfl) ?_)
    refine ca_oracle (hA _ e1) ⟨Nat.le_refl _, ?_⟩
    repeat (first | refine wops_nil ?_ | refine zq1 rfl rfl ?_ | refine zq2 rfl rfl ?_ | refine zq3 rfl rfl ?_ | refine zq4 rfl rfl rfl rfl (inc (by omega)) ?_ | refine zq5 rfl rfl rfl rfl rfl (by assumption) ?_ | refine zq6 rfl rfl (by assumption) ?_ | refine zq7 rfl rfl rfl ?_ | refine zq8 rfl rfl rfl ?_ | refine zq9 rfl rfl rfl rfl ?_ | refine wp_condT rfl ?_ | refine wp_condF rfl ?_ | refine wp_region ?_ | refine wp_seq ?_ | refine wp_skip ?_ | refine wp_exit ?_ | refine wp_block ?_)
    refine wp_ret ?_
    exact ⟨_, _, rfl, hk _⟩
  have hlen : l.length ≤ 260 := by
    have h : ¬ ((l.length : Int) > 260) := of_decide_eq_false h
    omega
  clear h
  repeat (first | refine wops_nil ?_ | refine zq1 rfl rfl ?_ | refine zq2 rfl rfl ?_ | refine zq3 rfl rfl ?_ | refine zq4 rfl rfl rfl rfl (inc (by omega)) ?_ | refine zq5 rfl rfl rfl rfl rfl (by assumption) ?_ | refine zq6 rfl rfl (by assumption) ?_ | refine zq7 rfl rfl rfl ?_ | refine zq8 rfl rfl rfl ?_ | refine zq9 rfl rfl rfl rfl ?_ | refine wp_condT rfl ?_ | refine wp_condF rfl ?_ | refine wp_region ?_ | refine wp_seq ?_ | refine wp_skip ?_ | refine wp_exit ?_ | refine wp_block ?_)
  refine WOps.cut (fun T => ∃ Y : List AV, T = (iv total :: x :: lget Y 0 :: lget Y 1 :: lget Y 2 :: .ptr H.next 0 :: .v (.bool false) :: lget Y 3 :: lget Y 4 :: lget Y 5 :: lget Y 6 :: lget Y 7 :: lget Y 8 :: lget Y 9 :: lget Y 10 :: lget Y 11 :: lget Y 12 :: lget Y 13 :: lget Y 14 :: lget Y 15 :: lget Y 16 :: iv total :: x :: lget Y 17 :: lget Y 18 :: lget Y 19 :: lget Y 20 :: lget Y 21 :: lget Y 22 :: lget Y 23 :: lget Y 24 :: lget Y 25 :: lget Y 26 :: lget Y 27 :: lget Y 28 :: lget Y 29 :: lget Y 30 :: lget Y 31 :: lget Y 32 :: lget Y 33 :: lget Y 34 :: lget Y 35 :: lget Y 36 :: lget Y 37 :: lget Y 38 :: lget Y 39 :: lget Y 40 :: lget Y 41 :: lget Y 42 :: lget Y 43 :: lget Y 44 :: lget Y 45 :: lget Y 46 :: lget Y 47 :: lget Y 48 :: lget Y 49 :: lget Y 50 :: lget Y 51 :: lget Y 52 :: lget Y 53 :: lget Y 54 :: lget Y 55 :: lget Y 56 :: lget Y 57 :: lget Y 58 :: lget Y 59 :: lget Y 60 :: lget Y 61 :: lget Y 62 :: lget Y 63 :: lget Y 64 :: lget Y 65 :: lget Y 66 :: lget Y 67 :: lget Y 68 :: lget Y 69 :: lget Y 70 :: lget Y 71 :: lget Y 72 :: lget Y 73 :: lget Y 74 :: lget Y 75 :: lget Y 76 :: lget Y 77 :: lget Y 78 :: lget Y 79 :: [])) ⟨[_,_,_,_,_,_,_,_,_,_,_,_,_,_,_,_,_,_,_,_,_,_,_,_,_,_,_,_,_,_,_,_,_,_,_,_,_,_,_,_,_,_,_,_,_,_,_,_,_,_,_,_,_,_,_,_,_,_,_,_,_,_,_,_,_,_,_,_,_,_,_,_,_,_,_,_,_,_,_,_], rfl⟩ ?_
  rintro T ⟨Y, rfl⟩
  refine wops_cons (wop_callF rfl rfl rfl (fn := Tryz.f26) (by rfl) ?_)
  have hox1 : Old H1 x := ho.keep k1
  refine (c26x hq H1 x l total hx1 hox1 (by omega)).mono ?_
  rintro r H2 ⟨k2, n2, c, s, e, rfl, hs2, o2, hcase⟩
  refine ⟨k2.nx, ?_⟩
  have hx2 := hx1.keep hox1 k2
  have hox2 := hox1.keep k2
  have g2 := (k2.get H.next (by omega)).trans g1
  clear hx hx1
  repeat (first | refine wops_nil ?_ | refine zq1 rfl rfl ?_ | refine zq2 rfl rfl ?_ | refine zq3 rfl rfl ?_ | refine zq4 rfl rfl rfl rfl (inc (by omega)) ?_ | refine zq5 rfl rfl rfl rfl rfl (by assumption) ?_ | refine zq6 rfl rfl (by assumption) ?_ | refine zq7 rfl rfl rfl ?_ | refine zq8 rfl rfl rfl ?_ | refine zq9 rfl rfl rfl rfl ?_ | refine wp_condT rfl ?_ | refine wp_condF rfl ?_ | refine wp_region ?_ | refine wp_seq ?_ | refine wp_skip ?_ | refine wp_exit ?_ | refine wp_block ?_)
  refine WOps.cut (fun T => ∃ Y : List AV, T = (iv total :: x :: lget Y 0 :: lget Y 1 :: lget Y 2 :: .ptr H.next 0 :: .v (.bool false) :: c :: iv e :: lget Y 3 :: lget Y 4 :: lget Y 5 :: lget Y 6 :: lget Y 7 :: lget Y 8 :: lget Y 9 :: lget Y 10 :: lget Y 11 :: lget Y 12 :: lget Y 13 :: lget Y 14 :: lget Y 15 :: lget Y 16 :: lget Y 17 :: lget Y 18 :: lget Y 19 :: iv total :: lget Y 20 :: lget Y 21 :: lget Y 22 :: lget Y 23 :: lget Y 24 :: lget Y 25 :: lget Y 26 :: lget Y 27 :: lget Y 28 :: lget Y 29 :: lget Y 30 :: lget Y 31 :: lget Y 32 :: lget Y 33 :: lget Y 34 :: lget Y 35 :: lget Y 36 :: lget Y 37 :: lget Y 38 :: lget Y 39 :: lget Y 40 :: lget Y 41 :: lget Y 42 :: lget Y 43 :: lget Y 44 :: lget Y 45 :: lget Y 46 :: lget Y 47 :: lget Y 48 :: lget Y 49 :: lget Y 50 :: lget Y 51 :: lget Y 52 :: lget Y 53 :: lget Y 54 :: lget Y 55 :: lget Y 56 :: lget Y 57 :: lget Y 58 :: lget Y 59 :: lget Y 60 :: lget Y 61 :: lget Y 62 :: lget Y 63 :: lget Y 64 :: lget Y 65 :: lget Y 66 :: lget Y 67 :: lget Y 68 :: lget Y 69 :: lget Y 70 :: lget Y 71 :: lget Y 72 :: lget Y 73 :: lget Y 74 :: lget Y 75 :: lget Y 76 :: lget Y 77 :: lget Y 78 :: [])) ⟨[_,_,_,_,_,_,_,_,_,_,_,_,_,_,_,_,_,_,_,_,_,_,_,_,_,_,_,_,_,_,_,_,_,_,_,_,_,_,_,_,_,_,_,_,_,_,_,_,_,_,_,_,_,_,_,_,_,_,_,_,_,_,_,_,_,_,_,_,_,_,_,_,_,_,_,_,_,_,_], rfl⟩ ?_
  rintro T ⟨Y, rfl⟩
  refine wops_split 5 ?_
  refine WOps.mono (K := fun T' H' => H2 = H' ∧ ∃ (Y : List AV), T' = (iv total :: x :: lget Y 0 :: lget Y 1 :: lget Y 2 :: .ptr H.next 0 :: .v (.bool false) :: c :: iv e :: lget Y 3 :: lget Y 4 :: lget Y 5 :: lget Y 6 :: lget Y 7 :: lget Y 8 :: lget Y 9 :: lget Y 10 :: lget Y 11 :: lget Y 12 :: lget Y 13 :: lget Y 14 :: lget Y 15 :: lget Y 16 :: lget Y 17 :: lget Y 18 :: lget Y 19 :: lget Y 20 :: lget Y 21 :: lget Y 22 :: lget Y 23 :: lget Y 24 :: .v (.bool (!decide (0 ≤ total ∧ total ≤ 999999999))) :: lget Y 25 :: lget Y 26 :: lget Y 27 :: lget Y 28 :: lget Y 29 :: lget Y 30 :: lget Y 31 :: lget Y 32 :: lget Y 33 :: lget Y 34 :: lget Y 35 :: lget Y 36 :: lget Y 37 :: lget Y 38 :: lget Y 39 :: lget Y 40 :: lget Y 41 :: lget Y 42 :: lget Y 43 :: lget Y 44 :: lget Y 45 :: lget Y 46 :: lget Y 47 :: lget Y 48 :: lget Y 49 :: lget Y 50 :: lget Y 51 :: lget Y 52 :: lget Y 53 :: lget Y 54 :: lget Y 55 :: lget Y 56 :: lget Y 57 :: lget Y 58 :: lget Y 59 :: lget Y 60 :: lget Y 61 :: lget Y 62 :: lget Y 63 :: lget Y 64 :: lget Y 65 :: lget Y 66 :: lget Y 67 :: lget Y 68 :: lget Y 69 :: lget Y 70 :: lget Y 71 :: lget Y 72 :: lget Y 73 :: lget Y 74 :: lget Y 75 :: lget Y 76 :: lget Y 77 :: lget Y 78 :: [])) ?_ ?_
  · refine wops_cons (wop_cmp rfl rfl rfl rfl rfl (fun h => ?_) (fun h => ?_))
    · have h0 : total < 0 := of_decide_eq_true h
      clear h
      have e0 : (!decide (0 ≤ total ∧ total ≤ 999999999)) = true := by simp; omega
      rw [e0]
      repeat (first | refine wops_nil ?_ | refine zq1 rfl rfl ?_ | refine zq2 rfl rfl ?_ | refine zq3 rfl rfl ?_ | refine zq4 rfl rfl rfl rfl (inc (by omega)) ?_ | refine zq5 rfl rfl rfl rfl rfl (by assumption) ?_ | refine zq6 rfl rfl (by assumption) ?_ | refine zq7 rfl rfl rfl ?_ | refine zq8 rfl rfl rfl ?_ | refine zq9 rfl rfl rfl rfl ?_ | refine wp_condT rfl ?_ | refine wp_condF rfl ?_ | refine wp_region ?_ | refine wp_seq ?_ | refine wp_skip ?_ | refine wp_exit ?_ | refine wp_block ?_)
      exact ⟨rfl, [_,_,_,_,_,_,_,_,_,_,_,_,_,_,_,_,_,_,_,_,_,_,_,_,_,_,_,_,_,_,_,_,_,_,_,_,_,_,_,_,_,_,_,_,_,_,_,_,_,_,_,_,_,_,_,_,_,_,_,_,_,_,_,_,_,_,_,_,_,_,_,_,_,_,_,_,_,_,_], rfl⟩
    have h0 : ¬ total < 0 := of_decide_eq_false h
    clear h
    repeat (first | refine wops_nil ?_ | refine zq1 rfl rfl ?_ | refine zq2 rfl rfl ?_ | refine zq3 rfl rfl ?_ | refine zq4 rfl rfl rfl rfl (inc (by omega)) ?_ | refine zq5 rfl rfl rfl rfl rfl (by assumption) ?_ | refine zq6 rfl rfl (by assumption) ?_ | refine zq7 rfl rfl rfl ?_ | refine zq8 rfl rfl rfl ?_ | refine zq9 rfl rfl rfl rfl ?_ | refine wp_condT rfl ?_ | refine wp_condF rfl ?_ | refine wp_region ?_ | refine wp_seq ?_ | refine wp_skip ?_ | refine wp_exit ?_ | refine wp_block ?_)
    refine wops_cons (wop_cmp rfl rfl rfl rfl rfl (fun h => ?_) (fun h => ?_))
    · have h1 : total > 999999999 := of_decide_eq_true h
      clear h
      have e0 : (!decide (0 ≤ total ∧ total ≤ 999999999)) = true := by simp; omega
      rw [e0]
      repeat (first | refine wops_nil ?_ | refine zq1 rfl rfl ?_ | refine zq2 rfl rfl ?_ | refine zq3 rfl rfl ?_ | refine zq4 rfl rfl rfl rfl (inc (by omega)) ?_ | refine zq5 rfl rfl rfl rfl rfl (by assumption) ?_ | refine zq6 rfl rfl (by assumption) ?_ | refine zq7 rfl rfl rfl ?_ | refine zq8 rfl rfl rfl ?_ | refine zq9 rfl rfl rfl rfl ?_ | refine wp_condT rfl ?_ | refine wp_condF rfl ?_ | refine wp_region ?_ | refine wp_seq ?_ | refine wp_skip ?_ | refine wp_exit ?_ | refine wp_block ?_)
      exact ⟨rfl, [_,_,_,_,_,_,_,_,_,_,_,_,_,_,_,_,_,_,_,_,_,_,_,_,_,_,_,_,_,_,_,_,_,_,_,_,_,_,_,_,_,_,_,_,_,_,_,_,_,_,_,_,_,_,_,_,_,_,_,_,_,_,_,_,_,_,_,_,_,_,_,_,_,_,_,_,_,_,_], rfl⟩
    have h1 : ¬ total > 999999999 := of_decide_eq_false h
    clear h
    have e0 : (!decide (0 ≤ total ∧ total ≤ 999999999)) = false := by simp; omega
    rw [e0]
    repeat (first | refine wops_nil ?_ | refine zq1 rfl rfl ?_ | refine zq2 rfl rfl ?_ | refine zq3 rfl rfl ?_ | refine zq4 rfl rfl rfl rfl (inc (by omega)) ?_ | refine zq5 rfl rfl rfl rfl rfl (by assumption) ?_ | refine zq6 rfl rfl (by assumption) ?_ | refine zq7 rfl rfl rfl ?_ | refine zq8 rfl rfl rfl ?_ | refine zq9 rfl rfl rfl rfl ?_ | refine wp_condT rfl ?_ | refine wp_condF rfl ?_ | refine wp_region ?_ | refine wp_seq ?_ | refine wp_skip ?_ | refine wp_exit ?_ | refine wp_block ?_)
    exact ⟨rfl, [_,_,_,_,_,_,_,_,_,_,_,_,_,_,_,_,_,_,_,_,_,_,_,_,_,_,_,_,_,_,_,_,_,_,_,_,_,_,_,_,_,_,_,_,_,_,_,_,_,_,_,_,_,_,_,_,_,_,_,_,_,_,_,_,_,_,_,_,_,_,_,_,_,_,_,_,_,_,_], rfl⟩
  rintro T' H' ⟨rfl, Y, rfl⟩
  refine wops_cons (wop_callF rfl rfl rfl (fn := Tryz.f11) (by rfl) ?_)
  refine c11 hq H2 _ 3 _ ⟨Nat.le_refl _, ?_⟩
  repeat (first | refine wops_nil ?_ | refine zq1 rfl rfl ?_ | refine zq2 rfl rfl ?_ | refine zq3 rfl rfl ?_ | refine zq4 rfl rfl rfl rfl (inc (by omega)) ?_ | refine zq5 rfl rfl rfl rfl rfl (by assumption) ?_ | refine zq6 rfl rfl (by assumption) ?_ | refine zq7 rfl rfl rfl ?_ | refine zq8 rfl rfl rfl ?_ | refine zq9 rfl rfl rfl rfl ?_ | refine wp_condT rfl ?_ | refine wp_condF rfl ?_ | refine wp_region ?_ | refine wp_seq ?_ | refine wp_skip ?_ | refine wp_exit ?_ | refine wp_block ?_)
  refine wops_cons (wop_callF rfl rfl rfl (fn := Tryz.f27) (by rfl) ?_)
  refine c27 hq H2 x l hx2 _ ⟨Nat.le_refl _, ?_⟩
  repeat (first | refine wops_nil ?_ | refine zq1 rfl rfl ?_ | refine zq2 rfl rfl ?_ | refine zq3 rfl rfl ?_ | refine zq4 rfl rfl rfl rfl (inc (by omega)) ?_ | refine zq5 rfl rfl rfl rfl rfl (by assumption) ?_ | refine zq6 rfl rfl (by assumption) ?_ | refine zq7 rfl rfl rfl ?_ | refine zq8 rfl rfl rfl ?_ | refine zq9 rfl rfl rfl rfl ?_ | refine wp_condT rfl ?_ | refine wp_condF rfl ?_ | refine wp_region ?_ | refine wp_seq ?_ | refine wp_skip ?_ | refine wp_exit ?_ | refine wp_block ?_)
  have r2 : H2.next < 2 ^ 39 := by omega
  refine wops_cons (o_build2 rfl rfl rfl rfl r2 ?_)
  have k3 := (Keeps.refl H2).add (.cells [iv (if (!decide (0 ≤ total ∧ total ≤ 999999999)) = true then 3 else 0), iv (weightE l)] 3 0) r2
  have hs3 := sl_new (H := H2) (cs := ivs [(if (!decide (0 ≤ total ∧ total ≤ 999999999)) = true then 3 else 0), weightE l]) (e := 3) r2 2
  refine wops_cons (wop_callF rfl rfl rfl (fn := Tryz.f10) (by rfl) ?_)
  refine c10 hq _ _ [(if (!decide (0 ≤ total ∧ total ≤ 999999999)) = true then 3 else 0), weightE l] hs3 (by show 2 ≤ 1000; decide) _ ⟨Nat.le_refl _, ?_⟩
  have n3 : (H2.add (.cells [iv (if (!decide (0 ≤ total ∧ total ≤ 999999999)) = true then 3 else 0), iv (weightE l)] 3 0)).next = H2.next + 1 := rfl
  clear hs3
  refine WOps.H (H' := H2.add (.cells [iv (if (!decide (0 ≤ total ∧ total ≤ 999999999)) = true then 3 else 0), iv (weightE l)] 3 0)) rfl ?_
  generalize H2.add (.cells [iv (if (!decide (0 ≤ total ∧ total ≤ 999999999)) = true then 3 else 0), iv (weightE l)] 3 0) = H3 at k3 n3 ⊢
  have hx3 := hx2.keep hox2 k3
  have hox3 := hox2.keep k3
  have g3 := (k3.get H.next (by have := k2.nx; omega)).trans g2
  have hs3 := hs2.keep o2 k3
  have o3 := o2.keep k3
  clear hx2
  obtain ⟨B, hB⟩ : ∃ B, firstNZ [(if (!decide (0 ≤ total ∧ total ≤ 999999999)) = true then 3 else 0), weightE l] = B := ⟨_, rfl⟩
  rw [hB]
  have hBs : (((0 ≤ total ∧ total ≤ 999999999) ∧ weightE l = 0) ∧ B = 0) ∨ (¬ ((0 ≤ total ∧ total ≤ 999999999) ∧ weightE l = 0) ∧ B ≠ 0 ∧ B = (if 0 ≤ total ∧ total ≤ 999999999 then weightE l else 3)) := by
    rw [← hB]
    by_cases hr0 : 0 ≤ total ∧ total ≤ 999999999
    · by_cases hw0 : weightE l = 0
      · left; refine ⟨⟨hr0, hw0⟩, ?_⟩; simp [firstNZ, hr0, hw0]
      · right; refine ⟨fun h => hw0 h.2, ?_, ?_⟩ <;> simp [firstNZ, hr0, hw0]
    · right; refine ⟨fun h => hr0 h.1, ?_, ?_⟩ <;> simp [firstNZ, hr0]
  clear hB
  repeat (first | refine wops_nil ?_ | refine zq1 rfl rfl ?_ | refine zq2 rfl rfl ?_ | refine zq3 rfl rfl ?_ | refine zq4 rfl rfl rfl rfl (inc (by omega)) ?_ | refine zq5 rfl rfl rfl rfl rfl (by assumption) ?_ | refine zq6 rfl rfl (by assumption) ?_ | refine zq7 rfl rfl rfl ?_ | refine zq8 rfl rfl rfl ?_ | refine zq9 rfl rfl rfl rfl ?_ | refine wp_condT rfl ?_ | refine wp_condF rfl ?_ | refine wp_region ?_ | refine wp_seq ?_ | refine wp_skip ?_ | refine wp_exit ?_ | refine wp_block ?_)
  refine WOps.cut (fun T => ∃ Y : List AV, T = (iv total :: x :: lget Y 0 :: lget Y 1 :: lget Y 2 :: .ptr H.next 0 :: .v (.bool false) :: c :: iv e :: iv B :: lget Y 3 :: lget Y 4 :: lget Y 5 :: lget Y 6 :: lget Y 7 :: lget Y 8 :: lget Y 9 :: lget Y 10 :: lget Y 11 :: lget Y 12 :: lget Y 13 :: lget Y 14 :: lget Y 15 :: lget Y 16 :: lget Y 17 :: lget Y 18 :: lget Y 19 :: lget Y 20 :: lget Y 21 :: lget Y 22 :: lget Y 23 :: lget Y 24 :: lget Y 25 :: lget Y 26 :: lget Y 27 :: lget Y 28 :: lget Y 29 :: iv B :: lget Y 30 :: lget Y 31 :: lget Y 32 :: lget Y 33 :: lget Y 34 :: lget Y 35 :: lget Y 36 :: lget Y 37 :: lget Y 38 :: lget Y 39 :: lget Y 40 :: lget Y 41 :: lget Y 42 :: lget Y 43 :: lget Y 44 :: lget Y 45 :: lget Y 46 :: lget Y 47 :: lget Y 48 :: lget Y 49 :: lget Y 50 :: lget Y 51 :: lget Y 52 :: lget Y 53 :: lget Y 54 :: lget Y 55 :: lget Y 56 :: lget Y 57 :: lget Y 58 :: lget Y 59 :: lget Y 60 :: lget Y 61 :: lget Y 62 :: lget Y 63 :: lget Y 64 :: lget Y 65 :: lget Y 66 :: lget Y 67 :: lget Y 68 :: lget Y 69 :: lget Y 70 :: lget Y 71 :: lget Y 72 :: lget Y 73 :: lget Y 74 :: lget Y 75 :: lget Y 76 :: lget Y 77 :: [])) ⟨[_,_,_,_,_,_,_,_,_,_,_,_,_,_,_,_,_,_,_,_,_,_,_,_,_,_,_,_,_,_,_,_,_,_,_,_,_,_,_,_,_,_,_,_,_,_,_,_,_,_,_,_,_,_,_,_,_,_,_,_,_,_,_,_,_,_,_,_,_,_,_,_,_,_,_,_,_,_], rfl⟩ ?_
  rintro T ⟨Y, rfl⟩
  refine wops_split 21 ?_
  refine WOps.mono (K := fun T' H' => Keeps H3 H' ∧ H'.next ≤ H3.next + 1100 ∧ ∃ (Y : List AV), T' = (iv total :: x :: lget Y 0 :: lget Y 1 :: lget Y 2 :: .ptr H.next 0 :: .v (.bool false) :: lget Y 3 :: lget Y 4 :: lget Y 5 :: lget Y 6 :: lget Y 7 :: lget Y 8 :: lget Y 9 :: lget Y 10 :: lget Y 11 :: lget Y 12 :: lget Y 13 :: lget Y 14 :: lget Y 15 :: lget Y 16 :: lget Y 17 :: lget Y 18 :: lget Y 19 :: lget Y 20 :: lget Y 21 :: lget Y 22 :: lget Y 23 :: lget Y 24 :: lget Y 25 :: lget Y 26 :: lget Y 27 :: lget Y 28 :: lget Y 29 :: lget Y 30 :: lget Y 31 :: lget Y 32 :: lget Y 33 :: lget Y 34 :: lget Y 35 :: lget Y 36 :: lget Y 37 :: lget Y 38 :: lget Y 39 :: lget Y 40 :: lget Y 41 :: lget Y 42 :: lget Y 43 :: lget Y 44 :: lget Y 45 :: lget Y 46 :: lget Y 47 :: lget Y 48 :: lget Y 49 :: lget Y 50 :: lget Y 51 :: lget Y 52 :: lget Y 53 :: .v (.bool false) :: lget Y 54 :: lget Y 55 :: lget Y 56 :: lget Y 57 :: lget Y 58 :: lget Y 59 :: lget Y 60 :: lget Y 61 :: lget Y 62 :: lget Y 63 :: lget Y 64 :: lget Y 65 :: lget Y 66 :: lget Y 67 :: lget Y 68 :: lget Y 69 :: lget Y 70 :: lget Y 71 :: lget Y 72 :: lget Y 73 :: lget Y 74 :: lget Y 75 :: lget Y 76 :: lget Y 77 :: lget Y 78 :: lget Y 79 :: lget Y 80 :: [])) ?_ ?_
  · rcases hBs with ⟨hok, rfl⟩ | ⟨hno, hB0, hBe⟩
    · rcases hcase with ⟨hno, _⟩ | ⟨_, rfl, g', hsd, sd, pm⟩
      · exact absurd hok hno
      obtain ⟨hl0, hl256, hwz, hs0, hsm⟩ := weight_all hok.2
      have hW : Wts l total := ⟨fun z hz => (hwz z hz).1, hok.1.1, hs0⟩
      refine wops_cons (wop_bin (op := .neq) (v := .bool false) rfl rfl rfl rfl rfl ?_)
      repeat (first | refine wops_nil ?_ | refine zq1 rfl rfl ?_ | refine zq2 rfl rfl ?_ | refine zq3 rfl rfl ?_ | refine zq4 rfl rfl rfl rfl (inc (by omega)) ?_ | refine zq5 rfl rfl rfl rfl rfl (by assumption) ?_ | refine zq6 rfl rfl (by assumption) ?_ | refine zq7 rfl rfl rfl ?_ | refine zq8 rfl rfl rfl ?_ | refine zq9 rfl rfl rfl rfl ?_ | refine wp_condT rfl ?_ | refine wp_condF rfl ?_ | refine wp_region ?_ | refine wp_seq ?_ | refine wp_skip ?_ | refine wp_exit ?_ | refine wp_block ?_)
      refine wops_cons (wop_bin (op := .eql) (v := .bool true) rfl rfl rfl rfl rfl ?_)
      repeat (first | refine wops_nil ?_ | refine zq1 rfl rfl ?_ | refine zq2 rfl rfl ?_ | refine zq3 rfl rfl ?_ | refine zq4 rfl rfl rfl rfl (inc (by omega)) ?_ | refine zq5 rfl rfl rfl rfl rfl (by assumption) ?_ | refine zq6 rfl rfl (by assumption) ?_ | refine zq7 rfl rfl rfl ?_ | refine zq8 rfl rfl rfl ?_ | refine zq9 rfl rfl rfl rfl ?_ | refine wp_condT rfl ?_ | refine wp_condF rfl ?_ | refine wp_region ?_ | refine wp_seq ?_ | refine wp_skip ?_ | refine wp_exit ?_ | refine wp_block ?_)
      refine wops_cons (wop_callF rfl rfl rfl (fn := Tryz.f28) (by rfl) ?_)
      refine c28 hq H3 x l total hx3 hox3 hok.1 hl0 hl256 hwz hs0 hW.quo_le (fun i _ => hW.take i) (by obtain ⟨m, h1, _, h2⟩ := hW.left; omega) (by omega) g' sd pm _ fun H4 c4 k4 n4 hs4 o4 => ⟨k4.nx, ?_⟩
      rw [← hsd] at hs4
      refine wops_cons (wop_callF rfl rfl rfl (fn := Tryz.f15) (by rfl) ?_)
      have hsl : s.length ≤ 100000 := by rw [hsd, bump_length]; simp only [quoL, List.length_map]; omega
      refine c15 hq H4 c c4 s s 0 0 (hs3.keep o3 k4) hs4 hsl _ ⟨Nat.le_refl _, ?_⟩
      rw [show listB s 0 0 s = true by simp [listB]]
      repeat (first | refine wops_nil ?_ | refine zq1 rfl rfl ?_ | refine zq2 rfl rfl ?_ | refine zq3 rfl rfl ?_ | refine zq4 rfl rfl rfl rfl (inc (by omega)) ?_ | refine zq5 rfl rfl rfl rfl rfl (by assumption) ?_ | refine zq6 rfl rfl (by assumption) ?_ | refine zq7 rfl rfl rfl ?_ | refine zq8 rfl rfl rfl ?_ | refine zq9 rfl rfl rfl rfl ?_ | refine wp_condT rfl ?_ | refine wp_condF rfl ?_ | refine wp_region ?_ | refine wp_seq ?_ | refine wp_skip ?_ | refine wp_exit ?_ | refine wp_block ?_)
      exact ⟨k4, n4, [_,_,_,_,_,_,_,_,_,_,_,_,_,_,_,_,_,_,_,_,_,_,_,_,_,_,_,_,_,_,_,_,_,_,_,_,_,_,_,_,_,_,_,_,_,_,_,_,_,_,_,_,_,_,_,_,_,_,_,_,_,_,_,_,_,_,_,_,_,_,_,_,_,_,_,_,_,_,_,_,_], rfl⟩
    · rcases hcase with ⟨_, rfl, rfl⟩ | ⟨hok, _⟩
      rotate_left
      · exact absurd hok hno
      rw [← hBe]
      refine wops_cons (wop_cmp rfl rfl rfl rfl rfl (fun h => ?_) (fun h => ?_))
      rotate_left
      · exact absurd (show B = 0 by simpa using h) hB0
      clear h
      repeat (first | refine wops_nil ?_ | refine zq1 rfl rfl ?_ | refine zq2 rfl rfl ?_ | refine zq3 rfl rfl ?_ | refine zq4 rfl rfl rfl rfl (inc (by omega)) ?_ | refine zq5 rfl rfl rfl rfl rfl (by assumption) ?_ | refine zq6 rfl rfl (by assumption) ?_ | refine zq7 rfl rfl rfl ?_ | refine zq8 rfl rfl rfl ?_ | refine zq9 rfl rfl rfl rfl ?_ | refine wp_condT rfl ?_ | refine wp_condF rfl ?_ | refine wp_region ?_ | refine wp_seq ?_ | refine wp_skip ?_ | refine wp_exit ?_ | refine wp_block ?_)
      refine wops_cons (wop_callF rfl rfl rfl (fn := Tryz.f15) (by rfl) ?_)
      refine c15 hq H3 c (.v (.slice none 0 0)) [] [] B B hs3 ⟨rfl, .inl rfl⟩ (Nat.zero_le _) _ ⟨Nat.le_refl _, ?_⟩
      rw [show listB [] B B [] = true by simp [listB, hB0]]
      repeat (first | refine wops_nil ?_ | refine zq1 rfl rfl ?_ | refine zq2 rfl rfl ?_ | refine zq3 rfl rfl ?_ | refine zq4 rfl rfl rfl rfl (inc (by omega)) ?_ | refine zq5 rfl rfl rfl rfl rfl (by assumption) ?_ | refine zq6 rfl rfl (by assumption) ?_ | refine zq7 rfl rfl rfl ?_ | refine zq8 rfl rfl rfl ?_ | refine zq9 rfl rfl rfl rfl ?_ | refine wp_condT rfl ?_ | refine wp_condF rfl ?_ | refine wp_region ?_ | refine wp_seq ?_ | refine wp_skip ?_ | refine wp_exit ?_ | refine wp_block ?_)
      refine wops_cons (wop_cmp rfl rfl rfl rfl rfl (fun h => ?_) (fun h => ?_))
      · exact absurd (show B = 0 by simpa using h) hB0
      clear h
      repeat (first | refine wops_nil ?_ | refine zq1 rfl rfl ?_ | refine zq2 rfl rfl ?_ | refine zq3 rfl rfl ?_ | refine zq4 rfl rfl rfl rfl (inc (by omega)) ?_ | refine zq5 rfl rfl rfl rfl rfl (by assumption) ?_ | refine zq6 rfl rfl (by assumption) ?_ | refine zq7 rfl rfl rfl ?_ | refine zq8 rfl rfl rfl ?_ | refine zq9 rfl rfl rfl rfl ?_ | refine wp_condT rfl ?_ | refine wp_condF rfl ?_ | refine wp_region ?_ | refine wp_seq ?_ | refine wp_skip ?_ | refine wp_exit ?_ | refine wp_block ?_)
      exact ⟨Keeps.refl _, by omega, [_,_,_,_,_,_,_,_,_,_,_,_,_,_,_,_,_,_,_,_,_,_,_,_,_,_,_,_,_,_,_,_,_,_,_,_,_,_,_,_,_,_,_,_,_,_,_,_,_,_,_,_,_,_,_,_,_,_,_,_,_,_,_,_,_,_,_,_,_,_,_,_,_,_,_,_,_,_,_,_,_], rfl⟩
  rintro T' H4 ⟨k4, n4, Y, rfl⟩
  have g4 := (k4.get H.next (by have := k2.nx; omega)).trans g3
  have hp0 : At H4 (.ptr H.next 0) (iv key) := at_ptr r0 g4 rfl
  have hp1 : At H4 (.ptr H.next 1) (iv n) := at_ptr r0 g4 rfl
  have hx4 : True ∧ Sl H4 x (ivs l) := ⟨trivial, hx3.keep hox3 k4⟩
  clear hcase hBs hx3 hs3 hs2
  repeat (first | refine wops_nil ?_ | refine zq1 rfl rfl ?_ | refine zq2 rfl rfl ?_ | refine zq3 rfl rfl ?_ | refine zq4 rfl rfl rfl rfl (inc (by omega)) ?_ | refine zq5 rfl rfl rfl rfl rfl (by assumption) ?_ | refine zq6 rfl rfl (by assumption) ?_ | refine zq7 rfl rfl rfl ?_ | refine zq8 rfl rfl rfl ?_ | refine zq9 rfl rfl rfl rfl ?_ | refine wp_condT rfl ?_ | refine wp_condF rfl ?_ | refine wp_region ?_ | refine wp_seq ?_ | refine wp_skip ?_ | refine wp_exit ?_ | refine wp_block ?_)
  refine WOps.cut (fun T => ∃ Y : List AV, T = (lget Y 0 :: lget Y 1 :: lget Y 2 :: lget Y 3 :: lget Y 4 :: .ptr H.next 0 :: .v (.bool false) :: lget Y 5 :: lget Y 6 :: lget Y 7 :: lget Y 8 :: lget Y 9 :: lget Y 10 :: lget Y 11 :: lget Y 12 :: lget Y 13 :: lget Y 14 :: lget Y 15 :: lget Y 16 :: lget Y 17 :: lget Y 18 :: lget Y 19 :: lget Y 20 :: lget Y 21 :: lget Y 22 :: lget Y 23 :: lget Y 24 :: lget Y 25 :: lget Y 26 :: lget Y 27 :: lget Y 28 :: lget Y 29 :: lget Y 30 :: lget Y 31 :: lget Y 32 :: lget Y 33 :: lget Y 34 :: lget Y 35 :: lget Y 36 :: lget Y 37 :: lget Y 38 :: lget Y 39 :: lget Y 40 :: lget Y 41 :: lget Y 42 :: lget Y 43 :: lget Y 44 :: lget Y 45 :: lget Y 46 :: lget Y 47 :: lget Y 48 :: lget Y 49 :: lget Y 50 :: lget Y 51 :: lget Y 52 :: lget Y 53 :: lget Y 54 :: lget Y 55 :: lget Y 56 :: lget Y 57 :: lget Y 58 :: lget Y 59 :: lget Y 60 :: lget Y 61 :: lget Y 62 :: lget Y 63 :: lget Y 64 :: lget Y 65 :: lget Y 66 :: lget Y 67 :: lget Y 68 :: lget Y 69 :: lget Y 70 :: lget Y 71 :: lget Y 72 :: lget Y 73 :: lget Y 74 :: lget Y 75 :: lget Y 76 :: lget Y 77 :: lget Y 78 :: lget Y 79 :: lget Y 80 :: lget Y 81 :: lget Y 82 :: lget Y 83 :: [])) ⟨[_,_,_,_,_,_,_,_,_,_,_,_,_,_,_,_,_,_,_,_,_,_,_,_,_,_,_,_,_,_,_,_,_,_,_,_,_,_,_,_,_,_,_,_,_,_,_,_,_,_,_,_,_,_,_,_,_,_,_,_,_,_,_,_,_,_,_,_,_,_,_,_,_,_,_,_,_,_,_,_,_,_,_,_], rfl⟩ ?_
  rintro T ⟨Y, rfl⟩
  refine wops_cons (o_indexP (b := H.next) (off := 0) (j := 0) rfl rfl rfl rfl (by decide) ?_)
  repeat (first | refine wops_nil ?_ | refine zq1 rfl rfl ?_ | refine zq2 rfl rfl ?_ | refine zq3 rfl rfl ?_ | refine zq4 rfl rfl rfl rfl (inc (by omega)) ?_ | refine zq5 rfl rfl rfl rfl rfl (by assumption) ?_ | refine zq6 rfl rfl (by assumption) ?_ | refine zq7 rfl rfl rfl ?_ | refine zq8 rfl rfl rfl ?_ | refine zq9 rfl rfl rfl rfl ?_ | refine wp_condT rfl ?_ | refine wp_condF rfl ?_ | refine wp_region ?_ | refine wp_seq ?_ | refine wp_skip ?_ | refine wp_exit ?_ | refine wp_block ?_)
  refine wops_cons (o_indexP (b := H.next) (off := 0) (j := 1) rfl rfl rfl rfl (by decide) ?_)
  repeat (first | refine wops_nil ?_ | refine zq1 rfl rfl ?_ | refine zq2 rfl rfl ?_ | refine zq3 rfl rfl ?_ | refine zq4 rfl rfl rfl rfl (inc (by omega)) ?_ | refine zq5 rfl rfl rfl rfl rfl (by assumption) ?_ | refine zq6 rfl rfl (by assumption) ?_ | refine zq7 rfl rfl rfl ?_ | refine zq8 rfl rfl rfl ?_ | refine zq9 rfl rfl rfl rfl ?_ | refine wp_condT rfl ?_ | refine wp_condF rfl ?_ | refine wp_region ?_ | refine wp_seq ?_ | refine wp_skip ?_ | refine wp_exit ?_ | refine wp_block ?_)
  refine wops_cons (wop_callF rfl rfl rfl (fn := Tryz.f29) (by rfl) ?_)
  refine (c29x hq hins H4 key n (by omega)).mono ?_
  rintro r H5 ⟨k5, n5, d, s5, e5, rfl, hs5, o5, hcase5⟩
  refine ⟨k5.nx, ?_⟩
  have g5 := (k5.get H.next (by have := k2.nx; have := k3.nx; have := k4.nx; omega)).trans g4
  clear hp0 hp1
  have hp0 : At H5 (.ptr H.next 0) (iv key) := at_ptr r0 g5 rfl
  have hp1 : At H5 (.ptr H.next 1) (iv n) := at_ptr r0 g5 rfl
  repeat (first | refine wops_nil ?_ | refine zq1 rfl rfl ?_ | refine zq2 rfl rfl ?_ | refine zq3 rfl rfl ?_ | refine zq4 rfl rfl rfl rfl (inc (by omega)) ?_ | refine zq5 rfl rfl rfl rfl rfl (by assumption) ?_ | refine zq6 rfl rfl (by assumption) ?_ | refine zq7 rfl rfl rfl ?_ | refine zq8 rfl rfl rfl ?_ | refine zq9 rfl rfl rfl rfl ?_ | refine wp_condT rfl ?_ | refine wp_condF rfl ?_ | refine wp_region ?_ | refine wp_seq ?_ | refine wp_skip ?_ | refine wp_exit ?_ | refine wp_block ?_)
  refine wops_cons (o_indexP (b := H.next) (off := 0) (j := 0) rfl rfl rfl rfl (by decide) ?_)
  repeat (first | refine wops_nil ?_ | refine zq1 rfl rfl ?_ | refine zq2 rfl rfl ?_ | refine zq3 rfl rfl ?_ | refine zq4 rfl rfl rfl rfl (inc (by omega)) ?_ | refine zq5 rfl rfl rfl rfl rfl (by assumption) ?_ | refine zq6 rfl rfl (by assumption) ?_ | refine zq7 rfl rfl rfl ?_ | refine zq8 rfl rfl rfl ?_ | refine zq9 rfl rfl rfl rfl ?_ | refine wp_condT rfl ?_ | refine wp_condF rfl ?_ | refine wp_region ?_ | refine wp_seq ?_ | refine wp_skip ?_ | refine wp_exit ?_ | refine wp_block ?_)
  refine wops_cons (o_indexP (b := H.next) (off := 0) (j := 1) rfl rfl rfl rfl (by decide) ?_)
  repeat (first | refine wops_nil ?_ | refine zq1 rfl rfl ?_ | refine zq2 rfl rfl ?_ | refine zq3 rfl rfl ?_ | refine zq4 rfl rfl rfl rfl (inc (by omega)) ?_ | refine zq5 rfl rfl rfl rfl rfl (by assumption) ?_ | refine zq6 rfl rfl (by assumption) ?_ | refine zq7 rfl rfl rfl ?_ | refine zq8 rfl rfl rfl ?_ | refine zq9 rfl rfl rfl rfl ?_ | refine wp_condT rfl ?_ | refine wp_condF rfl ?_ | refine wp_region ?_ | refine wp_seq ?_ | refine wp_skip ?_ | refine wp_exit ?_ | refine wp_block ?_)
  refine wops_cons (wop_callF rfl rfl rfl (fn := Tryz.f30) (by rfl) ?_)
  refine c30 hq H5 key n _ ⟨Nat.le_refl _, ?_⟩
  rcases hcase5 with ⟨hno, rfl, rfl⟩ | ⟨hok, rfl, rfl⟩
  · rw [if_neg hno]
    repeat (first | refine wops_nil ?_ | refine zq1 rfl rfl ?_ | refine zq2 rfl rfl ?_ | refine zq3 rfl rfl ?_ | refine zq4 rfl rfl rfl rfl (inc (by omega)) ?_ | refine zq5 rfl rfl rfl rfl rfl (by assumption) ?_ | refine zq6 rfl rfl (by assumption) ?_ | refine zq7 rfl rfl rfl ?_ | refine zq8 rfl rfl rfl ?_ | refine zq9 rfl rfl rfl rfl ?_ | refine wp_condT rfl ?_ | refine wp_condF rfl ?_ | refine wp_region ?_ | refine wp_seq ?_ | refine wp_skip ?_ | refine wp_exit ?_ | refine wp_block ?_)
    refine WOps.cut (fun T => ∃ Y : List AV, T = (lget Y 0 :: lget Y 1 :: lget Y 2 :: lget Y 3 :: lget Y 4 :: .ptr H.next 0 :: .v (.bool false) :: lget Y 5 :: lget Y 6 :: iv 3 :: d :: iv 3 :: lget Y 7 :: lget Y 8 :: lget Y 9 :: lget Y 10 :: lget Y 11 :: lget Y 12 :: lget Y 13 :: lget Y 14 :: lget Y 15 :: lget Y 16 :: lget Y 17 :: lget Y 18 :: lget Y 19 :: lget Y 20 :: lget Y 21 :: lget Y 22 :: lget Y 23 :: lget Y 24 :: lget Y 25 :: lget Y 26 :: lget Y 27 :: lget Y 28 :: lget Y 29 :: lget Y 30 :: lget Y 31 :: lget Y 32 :: lget Y 33 :: lget Y 34 :: lget Y 35 :: lget Y 36 :: lget Y 37 :: lget Y 38 :: lget Y 39 :: lget Y 40 :: lget Y 41 :: lget Y 42 :: lget Y 43 :: lget Y 44 :: lget Y 45 :: lget Y 46 :: lget Y 47 :: lget Y 48 :: lget Y 49 :: lget Y 50 :: lget Y 51 :: lget Y 52 :: lget Y 53 :: lget Y 54 :: lget Y 55 :: lget Y 56 :: lget Y 57 :: lget Y 58 :: lget Y 59 :: lget Y 60 :: lget Y 61 :: lget Y 62 :: lget Y 63 :: lget Y 64 :: lget Y 65 :: lget Y 66 :: iv 3 :: lget Y 67 :: lget Y 68 :: lget Y 69 :: lget Y 70 :: lget Y 71 :: lget Y 72 :: lget Y 73 :: lget Y 74 :: lget Y 75 :: lget Y 76 :: lget Y 77 :: lget Y 78 :: lget Y 79 :: [])) ⟨[_,_,_,_,_,_,_,_,_,_,_,_,_,_,_,_,_,_,_,_,_,_,_,_,_,_,_,_,_,_,_,_,_,_,_,_,_,_,_,_,_,_,_,_,_,_,_,_,_,_,_,_,_,_,_,_,_,_,_,_,_,_,_,_,_,_,_,_,_,_,_,_,_,_,_,_,_,_,_,_], rfl⟩ ?_
    rintro T ⟨Y, rfl⟩
    refine wops_cons (wop_bin (op := .neq) (v := .bool true) rfl rfl rfl rfl rfl ?_)
    repeat (first | refine wops_nil ?_ | refine zq1 rfl rfl ?_ | refine zq2 rfl rfl ?_ | refine zq3 rfl rfl ?_ | refine zq4 rfl rfl rfl rfl (inc (by omega)) ?_ | refine zq5 rfl rfl rfl rfl rfl (by assumption) ?_ | refine zq6 rfl rfl (by assumption) ?_ | refine zq7 rfl rfl rfl ?_ | refine zq8 rfl rfl rfl ?_ | refine zq9 rfl rfl rfl rfl ?_ | refine wp_condT rfl ?_ | refine wp_condF rfl ?_ | refine wp_region ?_ | refine wp_seq ?_ | refine wp_skip ?_ | refine wp_exit ?_ | refine wp_block ?_)
    refine wops_cons (wop_callF rfl rfl rfl (fn := Tryz.f15) (by rfl) ?_)
    refine c15 hq H5 d (.v (.slice none 0 0)) [] [] 3 3 hs5 ⟨rfl, .inl rfl⟩ (Nat.zero_le _) _ ⟨Nat.le_refl _, ?_⟩
    rw [show listB [] 3 3 [] = true by simp [listB]]
    repeat (first | refine wops_nil ?_ | refine zq1 rfl rfl ?_ | refine zq2 rfl rfl ?_ | refine zq3 rfl rfl ?_ | refine zq4 rfl rfl rfl rfl (inc (by omega)) ?_ | refine zq5 rfl rfl rfl rfl rfl (by assumption) ?_ | refine zq6 rfl rfl (by assumption) ?_ | refine zq7 rfl rfl rfl ?_ | refine zq8 rfl rfl rfl ?_ | refine zq9 rfl rfl rfl rfl ?_ | refine wp_condT rfl ?_ | refine wp_condF rfl ?_ | refine wp_region ?_ | refine wp_seq ?_ | refine wp_skip ?_ | refine wp_exit ?_ | refine wp_block ?_)
    refine wp_ret ?_
    exact ⟨_, _, rfl, hk _⟩
  rw [if_pos hok]
  repeat (first | refine wops_nil ?_ | refine zq1 rfl rfl ?_ | refine zq2 rfl rfl ?_ | refine zq3 rfl rfl ?_ | refine zq4 rfl rfl rfl rfl (inc (by omega)) ?_ | refine zq5 rfl rfl rfl rfl rfl (by assumption) ?_ | refine zq6 rfl rfl (by assumption) ?_ | refine zq7 rfl rfl rfl ?_ | refine zq8 rfl rfl rfl ?_ | refine zq9 rfl rfl rfl rfl ?_ | refine wp_condT rfl ?_ | refine wp_condF rfl ?_ | refine wp_region ?_ | refine wp_seq ?_ | refine wp_skip ?_ | refine wp_exit ?_ | refine wp_block ?_)
  refine WOps.cut (fun T => ∃ Y : List AV, T = (lget Y 0 :: lget Y 1 :: lget Y 2 :: lget Y 3 :: lget Y 4 :: .ptr H.next 0 :: .v (.bool false) :: lget Y 5 :: lget Y 6 :: iv 0 :: d :: iv 0 :: lget Y 7 :: lget Y 8 :: lget Y 9 :: lget Y 10 :: lget Y 11 :: lget Y 12 :: lget Y 13 :: lget Y 14 :: lget Y 15 :: lget Y 16 :: lget Y 17 :: lget Y 18 :: lget Y 19 :: lget Y 20 :: lget Y 21 :: lget Y 22 :: lget Y 23 :: lget Y 24 :: lget Y 25 :: lget Y 26 :: lget Y 27 :: lget Y 28 :: lget Y 29 :: lget Y 30 :: lget Y 31 :: lget Y 32 :: lget Y 33 :: lget Y 34 :: lget Y 35 :: lget Y 36 :: lget Y 37 :: lget Y 38 :: lget Y 39 :: lget Y 40 :: lget Y 41 :: lget Y 42 :: lget Y 43 :: lget Y 44 :: lget Y 45 :: lget Y 46 :: lget Y 47 :: lget Y 48 :: lget Y 49 :: lget Y 50 :: lget Y 51 :: lget Y 52 :: lget Y 53 :: lget Y 54 :: lget Y 55 :: lget Y 56 :: lget Y 57 :: lget Y 58 :: lget Y 59 :: lget Y 60 :: lget Y 61 :: lget Y 62 :: lget Y 63 :: lget Y 64 :: lget Y 65 :: lget Y 66 :: iv 0 :: lget Y 67 :: lget Y 68 :: lget Y 69 :: lget Y 70 :: lget Y 71 :: lget Y 72 :: lget Y 73 :: lget Y 74 :: lget Y 75 :: lget Y 76 :: lget Y 77 :: lget Y 78 :: lget Y 79 :: [])) ⟨[_,_,_,_,_,_,_,_,_,_,_,_,_,_,_,_,_,_,_,_,_,_,_,_,_,_,_,_,_,_,_,_,_,_,_,_,_,_,_,_,_,_,_,_,_,_,_,_,_,_,_,_,_,_,_,_,_,_,_,_,_,_,_,_,_,_,_,_,_,_,_,_,_,_,_,_,_,_,_,_], rfl⟩ ?_
  rintro T ⟨Y, rfl⟩
  refine wops_cons (wop_bin (op := .neq) (v := .bool false) rfl rfl rfl rfl rfl ?_)
  repeat (first | refine wops_nil ?_ | refine zq1 rfl rfl ?_ | refine zq2 rfl rfl ?_ | refine zq3 rfl rfl ?_ | refine zq4 rfl rfl rfl rfl (inc (by omega)) ?_ | refine zq5 rfl rfl rfl rfl rfl (by assumption) ?_ | refine zq6 rfl rfl (by assumption) ?_ | refine zq7 rfl rfl rfl ?_ | refine zq8 rfl rfl rfl ?_ | refine zq9 rfl rfl rfl rfl ?_ | refine wp_condT rfl ?_ | refine wp_condF rfl ?_ | refine wp_region ?_ | refine wp_seq ?_ | refine wp_skip ?_ | refine wp_exit ?_ | refine wp_block ?_)
  refine wops_cons (o_indexP (b := H.next) (off := 0) (j := 0) rfl rfl rfl rfl (by decide) ?_)
  repeat (first | refine wops_nil ?_ | refine zq1 rfl rfl ?_ | refine zq2 rfl rfl ?_ | refine zq3 rfl rfl ?_ | refine zq4 rfl rfl rfl rfl (inc (by omega)) ?_ | refine zq5 rfl rfl rfl rfl rfl (by assumption) ?_ | refine zq6 rfl rfl (by assumption) ?_ | refine zq7 rfl rfl rfl ?_ | refine zq8 rfl rfl rfl ?_ | refine zq9 rfl rfl rfl rfl ?_ | refine wp_condT rfl ?_ | refine wp_condF rfl ?_ | refine wp_region ?_ | refine wp_seq ?_ | refine wp_skip ?_ | refine wp_exit ?_ | refine wp_block ?_)
  refine wops_cons (o_indexP (b := H.next) (off := 0) (j := 1) rfl rfl rfl rfl (by decide) ?_)
  repeat (first | refine wops_nil ?_ | refine zq1 rfl rfl ?_ | refine zq2 rfl rfl ?_ | refine zq3 rfl rfl ?_ | refine zq4 rfl rfl rfl rfl (inc (by omega)) ?_ | refine zq5 rfl rfl rfl rfl rfl (by assumption) ?_ | refine zq6 rfl rfl (by assumption) ?_ | refine zq7 rfl rfl rfl ?_ | refine zq8 rfl rfl rfl ?_ | refine zq9 rfl rfl rfl rfl ?_ | refine wp_condT rfl ?_ | refine wp_condF rfl ?_ | refine wp_region ?_ | refine wp_seq ?_ | refine wp_skip ?_ | refine wp_exit ?_ | refine wp_block ?_)
  have hn := hok.2.2.1
  obtain ⟨m, rfl⟩ := Int.eq_ofNat_of_zero_le hn
  refine wops_cons (wop_callF rfl rfl rfl (fn := Tryz.f31) (by rfl) ?_)
  refine c31 hq H5 key m ⟨hok.1, hok.2.1⟩ (by have := hok.2.2.2; omega) (by omega) _ fun H6 c6 k6 n6 hs6 o6 => ⟨k6.nx, ?_⟩
  refine wops_cons (wop_callF rfl rfl rfl (fn := Tryz.f15) (by rfl) ?_)
  refine c15 hq H6 d c6 (drawL key m) (drawL key m) 0 0 (hs5.keep o5 k6) hs6 (by rw [drawL_length]; have := hok.2.2.2; omega) _ ⟨Nat.le_refl _, ?_⟩
  rw [show listB (drawL key m) 0 0 (drawL key m) = true by simp [listB]]
  repeat (first | refine wops_nil ?_ | refine zq1 rfl rfl ?_ | refine zq2 rfl rfl ?_ | refine zq3 rfl rfl ?_ | refine zq4 rfl rfl rfl rfl (inc (by omega)) ?_ | refine zq5 rfl rfl rfl rfl rfl (by assumption) ?_ | refine zq6 rfl rfl (by assumption) ?_ | refine zq7 rfl rfl rfl ?_ | refine zq8 rfl rfl rfl ?_ | refine zq9 rfl rfl rfl rfl ?_ | refine wp_condT rfl ?_ | refine wp_condF rfl ?_ | refine wp_region ?_ | refine wp_seq ?_ | refine wp_skip ?_ | refine wp_exit ?_ | refine wp_block ?_)
  refine wp_ret ?_
  exact ⟨_, _, rfl, hk _⟩
end Go.Ev
