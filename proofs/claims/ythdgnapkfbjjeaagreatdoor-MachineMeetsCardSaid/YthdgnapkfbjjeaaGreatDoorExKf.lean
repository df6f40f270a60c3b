/- Part of an evaluator of calls that is proved sound, and of what it gives about this program. No condition of its own. -/
import Derived.Test.YthdgnapkfbjjeaaGreatDoorExKa
import Derived.Test.YthdgnapkfbjjeaaGreatDoorExIb
set_option linter.unusedVariables false
set_option linter.unusedSimpArgs false
set_option linter.unusedSectionVars false
set_option maxRecDepth 100000
set_option maxHeartbeats 4000000
set_option maxHeartbeats 8000000
namespace Go.Ev
open Go.Proofs
theorem o_lenN {O : CallF} {T : List AV} {H : AH} {ops : Array Oper} {o : Oper} {K : AV → AH → Prop} {c : Call} {t e : TypeId} {x : Operand} {l : List AV} {m : Nat} (ho : o.op = .call c) (hg : wantedA o ops T = true) (hc : c.callee = .builtin .len) (hargs : c.args.toList = [x]) (ht : c.argTypes.toList = [t]) [hu : TyS t e] (hx : Sl H (av T x) l) (hm : l.length = m)
   (hk : K (iv m) H) : WOp (ENV O) ops o T H K := o_len ho hg hc hargs ht hx (by rw [hm]; exact hk)
noncomputable def powS (l : List Int) (k : Int) : List Int × Int := if permE l ≠ 0 then ([], permE l) else (powL' l k, 0)
theorem tmod_range (k : Int) {p : Nat} (hp : 0 < p) : -(p : Int) < k.tmod p ∧ k.tmod p < p := by
 have h1 := Int.lt_tmod_of_pos k (show (0 : Int) < p by omega)
 have h2 := Int.tmod_lt_of_pos k (show (0 : Int) < p by omega)
 omega
theorem stp_cast (k : Int) {p : Nat} (hp : 0 < p) : (k.tmod p + p).tmod p = ((stp k p : Nat) : Int) ∧ stp k p < p := by
 have h := tmod_range k hp
 have h0 : 0 ≤ (k.tmod p + p).tmod p := Int.tmod_nonneg _ (by omega)
 have h1 := tmod_range (k.tmod p + p) hp
 unfold stp
 omega
theorem nvs_get {l : List Nat} {j y : Nat} (h : l[j]? = some y) : (nvs l)[j]? = some (iv (y : Int)) := by simp [nvs, ivs, h]
variable {O : CallF} (hq : Quiet O)
include hq
theorem c86 (H : AH) (x : AV) (l : List Int) (k : Int) (hx : Sl H x (ivs l)) (ho : Old H x) (hr : H.next + 300000 < 2 ^ 39) (K : AV → AH → Prop)
   (hk : ∀ H' c, Keeps H H' → H'.next ≤ H.next + 150000 → Sl H' c (ivs (powS l k).1) → Old H' c → K (.tup [c, iv (powS l k).2]) H') : Ca (ENV O) 86 [x, iv k] H K := by
 refine ca_intro (hq _ _ _ rfl) (fn := Tryz.f86) (by rfl) rfl ?_
 repeat (first | apply qN | refine qM rfl rfl ?_ | refine zq4 rfl rfl rfl rfl (inc (by omega)) ?_ | refine zq5 rfl rfl rfl rfl rfl ‹_› ?_ | refine zq6 rfl rfl ‹_› ?_ | refine qT rfl ?_ | refine qF rfl ?_ | apply qR | apply qS | apply qK | apply qE | apply qB)
 refine wops_cons (wop_callF rfl rfl rfl (fn := Tryz.f130) (by rfl) ?_)
 refine c12 hq H x l hx ho (by omega) _ fun H1 k1 n1 => ⟨k1.nx, ?_⟩
 repeat (first | apply qN | refine qM rfl rfl ?_ | refine zq4 rfl rfl rfl rfl (inc (by omega)) ?_ | refine zq5 rfl rfl rfl rfl rfl ‹_› ?_ | refine zq6 rfl rfl ‹_› ?_ | refine qT rfl ?_ | refine qF rfl ?_ | apply qR | apply qS | apply qK | apply qE | apply qB)
 refine wops_cons (wop_cmp rfl rfl rfl rfl rfl (fun h => ?_) (fun h => ?_))
 · have he : permE l ≠ 0 := by simpa using h
   repeat (first | apply qN | refine qM rfl rfl ?_ | refine zq4 rfl rfl rfl rfl (inc (by omega)) ?_ | refine zq5 rfl rfl rfl rfl rfl ‹_› ?_ | refine zq6 rfl rfl ‹_› ?_ | refine qT rfl ?_ | refine qF rfl ?_ | apply qR | apply qS | apply qK | apply qE | apply qB)
   refine wp_ret ?_
   refine ⟨_, _, rfl, ?_⟩
   have := hk H1 (.v (.slice none 0 0)) k1 (by omega) (by rw [powS, if_pos he]; exact ⟨rfl, .inl rfl⟩) (Old.v _)
   rw [powS, if_pos he] at this
   exact this
 have he : permE l = 0 := by simpa using h
 obtain ⟨hl, hok⟩ := permE_zero he
 rw [show powS l k = (powL' l k, 0) by rw [powS, if_neg (by simp [he])]] at hk
 have hx1 := hx.keep ho k1
 repeat (first | apply qN | refine qM rfl rfl ?_ | refine zq4 rfl rfl rfl rfl (inc (by omega)) ?_ | refine zq5 rfl rfl rfl rfl rfl ‹_› ?_ | refine zq6 rfl rfl ‹_› ?_ | refine qT rfl ?_ | refine qF rfl ?_ | apply qR | apply qS | apply qK | apply qE | apply qB)
 refine wops_cons (o_make rfl rfl rfl rfl (by omega) (by omega) ?_)
 have k2 := k1.add (.cells (List.replicate l.length (iv 0)) 3 0) (by omega)
 have g2 : (H1.add (.cells (List.replicate l.length (iv 0)) 3 0)).get H1.next = some (.cells (List.replicate l.length (iv 0)) 3 0) := get_add_eq (by omega)
 have n2 : (H1.add (.cells (List.replicate l.length (iv 0)) 3 0)).next = H1.next + 1 := rfl
 have hb39 : H1.next < 2 ^ 39 := by omega
 have hb0 : H.next ≤ H1.next := k1.nx
 have hb1 : H1.next ≤ H.next + 1 := n1
 have hx2 := hx.keep ho k2
 generalize H1.add (.cells (List.replicate l.length (iv 0)) 3 0) = H2 at k2 g2 n2 hx2 ⊢
 generalize H1.next = b at g2 n2 hb39 hb0 hb1 ⊢
 repeat (first | apply qN | refine qM rfl rfl ?_ | refine zq4 rfl rfl rfl rfl (inc (by omega)) ?_ | refine zq5 rfl rfl rfl rfl rfl ‹_› ?_ | refine zq6 rfl rfl ‹_› ?_ | refine qT rfl ?_ | refine qF rfl ?_ | apply qR | apply qS | apply qK | apply qE | apply qB)
 refine wops_cons (wop_callF rfl rfl rfl (fn := Tryz.f132) (by rfl) ?_)
 refine c51 hq H2 x l hx2 (ho.keep k2) hl hok (by omega) _ fun H3 s cyc k3 n3 hG hcy => ⟨k3.nx, ?_⟩
 have hpm := hok.pm
 have hpw : powL' l k = (List.range l.length).map fun x => ((it (fOf l) (stp k (per (fOf l) l.length x)) x : Nat) : Int) := rfl
 generalize fOf l = f at hpm hcy hpw
 generalize hn : l.length = n at hl hpm hcy hpw g2 ⊢
 have g3 : H3.get b = some (.cells (List.replicate n (iv 0)) 3 0) := (k3.get b (by omega)).trans g2
 have hbn : b < H2.next := by omega
 have m3 := k3.nx
 have k3' := k2.trans k3
 have hsown : ∀ c, s.own = some c → c ≠ b := fun c hc e => by
   subst e
   obtain ⟨cs', g, h1⟩ := hG.own_cells hc
   rw [g3] at h1; cases h1
 refine wops_cons (o_lenN rfl rfl rfl rfl rfl hG.sl hcy.1 ?_)
 repeat (first | apply qN | refine qM rfl rfl ?_ | refine zq4 rfl rfl rfl rfl (inc (by omega)) ?_ | refine zq5 rfl rfl rfl rfl rfl ‹_› ?_ | refine zq6 rfl rfl ‹_› ?_ | refine qT rfl ?_ | refine qF rfl ?_ | apply qR | apply qS | apply qK | apply qE | apply qB)
 refine wp_loop (fun q T M H' => ∃ (i : Nat) (Y : List AV) (cs : List AV), q = (cycs f n n).length - i ∧ i ≤ (cycs f n n).length ∧ H'.next = H3.next ∧ H'.gl = H3.gl ∧ (∀ c, c ≠ b → H'.get c = H3.get c) ∧ H'.get b = some (.cells cs 3 0) ∧ cs.length = n ∧ (∀ (j y : Nat) (o : List Nat), j < i → (cycs f n n)[j]? = some o → y ∈ o → cs[y]? = some (iv (it f (stp k (per f n y)) y : Nat))) ∧ M = [] ∧
     T = (x :: iv k :: lget Y 0 :: lget Y 1 :: .v (.slice none 0 0) :: iv 0 :: lget Y 2 :: .slc b 0 n n :: lget Y 3 :: lget Y 4 :: lget Y 5 :: lget Y 6 :: lget Y 7 :: lget Y 8 :: lget Y 9 :: lget Y 10 :: lget Y 11 :: lget Y 12 :: lget Y 13 :: lget Y 14 :: lget Y 15 :: lget Y 16 :: lget Y 17 :: s :: iv (cycs f n n).length :: iv (i : Nat) :: lget Y 18 :: lget Y 19 :: lget Y 20 :: lget Y 21 :: lget Y 22 :: lget Y 23 :: lget Y 24 :: lget Y 25 :: lget Y 26 :: lget Y 27 :: lget Y 28 :: lget Y 29 :: lget Y 30 :: lget Y 31 :: lget Y 32 :: lget Y 33 :: lget Y 34 :: lget Y 35 :: lget Y 36 :: lget Y 37 :: lget Y 38 :: lget Y 39 :: lget Y 40 :: lget Y 41 :: lget Y 42 :: lget Y 43 :: lget Y 44 :: lget Y 45 :: lget Y 46 :: lget Y 47 :: lget Y 48 :: lget Y 49 :: lget Y 50 :: [])) (cycs f n n).length
   ⟨0, [_,_,_,_,_,_,_,_,_,_,_,_,_,_,_,_,_,_,_,_,_,_,_,_,_,_,_,_,_,_,_,_,_,_,_,_,_,_,_,_,_,_,_,_,_,_,_,_,_,_,_], _, rfl, Nat.zero_le _, rfl, rfl, fun _ _ => rfl, g3, by simp, fun j y o h => absurd h (by omega), rfl, rfl⟩ ?_
 rintro q T M H' ⟨i, Y, cs, hq1, hi, hn', hgl', hg', hgb, hcs, hdone, rfl, rfl⟩
 have hKH : Keeps H H' := ⟨by have := k3'.nx; omega, hgl'.trans k3'.gl, fun c hc => (hg' c (by omega)).trans (k3'.get c hc)⟩
 have hcl : (cycs f n n).length ≤ n := by unfold cycs; rw [List.length_map]; exact Nat.le_trans (List.length_filter_le _ _) (by simp)
 repeat (first | apply qN | refine qM rfl rfl ?_ | refine zq4 rfl rfl rfl rfl (inc (by omega)) ?_ | refine zq5 rfl rfl rfl rfl rfl ‹_› ?_ | refine zq6 rfl rfl ‹_› ?_ | refine qT rfl ?_ | refine qF rfl ?_ | apply qR | apply qS | apply qK | apply qE | apply qB)
 refine wops_cons (wop_cmp rfl rfl rfl rfl rfl (fun h => ?_) (fun h => ?_))
 rotate_left
 · have h : ¬ ((i : Int) < (cycs f n n).length) := of_decide_eq_false h
   have e : i = (cycs f n n).length := by omega
   repeat (first | apply qN | refine qM rfl rfl ?_ | refine zq4 rfl rfl rfl rfl (inc (by omega)) ?_ | refine zq5 rfl rfl rfl rfl rfl ‹_› ?_ | refine zq6 rfl rfl ‹_› ?_ | refine qT rfl ?_ | refine qF rfl ?_ | apply qR | apply qS | apply qK | apply qE | apply qB)
   refine wp_ret ?_
   refine ⟨_, _, rfl, ?_⟩
   have hpl : (powL' l k).length = n := by rw [hpw]; simp
   refine hk H' _ hKH (by omega) (sl_cells hb39 hgb (by rw [ivs_length, hpl]) fun j v hv => ?_) (fun c hc => by cases hc; omega)
   have hj : j < n := by
     have := (List.getElem?_eq_some_iff.1 hv).1
     rw [ivs_length, hpl] at this
     exact this
   obtain ⟨o, ho, hjo⟩ := hpm.cycs_all hj
   obtain ⟨p, hp⟩ := List.mem_iff_getElem?.1 ho
   rw [hdone p j o (by have := (List.getElem?_eq_some_iff.1 hp).1; omega) hp hjo]
   rw [← hv, hpw]
   simp [ivs, hj]
 have h : (i : Int) < (cycs f n n).length := of_decide_eq_true h
 obtain ⟨o, hoi⟩ : ∃ o, (cycs f n n)[i]? = some o := ⟨_, List.getElem?_eq_getElem (by omega)⟩
 obtain ⟨c, hci⟩ : ∃ c, cyc[i]? = some c := ⟨_, List.getElem?_eq_getElem (by rw [hcy.1]; omega)⟩
 obtain ⟨hc1, hc2⟩ := hcy.2 i c o hci hoi
 obtain ⟨t, ht, rfl⟩ := cycs_mem (List.mem_of_getElem? hoi)
 have hSl : Sl H' s cyc := hG.sl.frame hgl' fun c hc => hg' c (hsown c hc)
 have hcb : ∀ d, c.own = some d → d ≠ b := fun d hd => by have := hc2 d hd; omega
 have hcS : True ∧ Sl H' c (nvs (orb f n t)) := ⟨trivial, hc1.frame hgl' fun d hd => hg' d (hcb d hd)⟩
 have hpp := per_pos f n t
 have hpn := (hpm.per_spec ht).2.1
 have hlo : (nvs (orb f n t)).length = per f n t := by rw [nvs_length, orb_length]
 repeat (first | apply qN | refine qM rfl rfl ?_ | refine zq4 rfl rfl rfl rfl (inc (by omega)) ?_ | refine zq5 rfl rfl rfl rfl rfl ‹_› ?_ | refine zq6 rfl rfl ‹_› ?_ | refine qT rfl ?_ | refine qF rfl ?_ | apply qR | apply qS | apply qK | apply qE | apply qB)
 refine wops_cons (o_index rfl rfl hSl rfl hci fun pt hpt => ?_)
 repeat (first | apply qN | refine qM rfl rfl ?_ | refine zq4 rfl rfl rfl rfl (inc (by omega)) ?_ | refine zq5 rfl rfl rfl rfl rfl ‹_› ?_ | refine zq6 rfl rfl ‹_› ?_ | refine qT rfl ?_ | refine qF rfl ?_ | apply qR | apply qS | apply qK | apply qE | apply qB)
 refine wops_cons (o_lenN rfl rfl rfl rfl rfl hcS.2 hlo ?_)
 repeat (first | apply qN | refine qM rfl rfl ?_ | refine zq4 rfl rfl rfl rfl (inc (by omega)) ?_ | refine zq5 rfl rfl rfl rfl rfl ‹_› ?_ | refine zq6 rfl rfl ‹_› ?_ | refine qT rfl ?_ | refine qF rfl ?_ | apply qR | apply qS | apply qK | apply qE | apply qB)
 refine wops_cons (wop_rem rfl rfl rfl rfl (by omega) ?_)
 repeat (first | apply qN | refine qM rfl rfl ?_ | refine zq4 rfl rfl rfl rfl (inc (by omega)) ?_ | refine zq5 rfl rfl rfl rfl rfl ‹_› ?_ | refine zq6 rfl rfl ‹_› ?_ | refine qT rfl ?_ | refine qF rfl ?_ | apply qR | apply qS | apply qK | apply qE | apply qB)
 have hrg := tmod_range k hpp
 obtain ⟨hst, hstl⟩ := stp_cast k hpp
 refine wops_cons (wop_bin (op := .add) (v := .int .i64 (k.tmod (per f n t) + per f n t)) rfl rfl rfl rfl ?_ ?_)
 · show some (Value.int .i64 (IntKind.i64.wrap (k.tmod (per f n t) + per f n t))) = _
   rw [wrap_id (by omega) (by omega)]
 repeat (first | apply qN | refine qM rfl rfl ?_ | refine zq4 rfl rfl rfl rfl (inc (by omega)) ?_ | refine zq5 rfl rfl rfl rfl rfl ‹_› ?_ | refine zq6 rfl rfl ‹_› ?_ | refine qT rfl ?_ | refine qF rfl ?_ | apply qR | apply qS | apply qK | apply qE | apply qB)
 refine wops_cons (wop_rem rfl rfl rfl rfl (by omega) ?_)
 rw [hst]
 repeat (first | apply qN | refine qM rfl rfl ?_ | refine zq4 rfl rfl rfl rfl (inc (by omega)) ?_ | refine zq5 rfl rfl rfl rfl rfl ‹_› ?_ | refine zq6 rfl rfl ‹_› ?_ | refine qT rfl ?_ | refine qF rfl ?_ | apply qR | apply qS | apply qK | apply qE | apply qB)
 refine wops_cons (o_lenN rfl rfl rfl rfl rfl hcS.2 hlo ?_)
 repeat (first | apply qN | refine qM rfl rfl ?_ | refine zq4 rfl rfl rfl rfl (inc (by omega)) ?_ | refine zq5 rfl rfl rfl rfl rfl ‹_› ?_ | refine zq6 rfl rfl ‹_› ?_ | refine qT rfl ?_ | refine qF rfl ?_ | apply qR | apply qS | apply qK | apply qE | apply qB)
 refine wp_loop (fun q2 T M H2' => ∃ (j : Nat) (Y : List AV) (cs : List AV), q2 = per f n t - j ∧ j ≤ per f n t ∧ H2'.next = H3.next ∧ H2'.gl = H3.gl ∧ (∀ c, c ≠ b → H2'.get c = H3.get c) ∧ H2'.get b = some (.cells cs 3 0) ∧ cs.length = n ∧ (∀ (j y : Nat) (o : List Nat), j < i → (cycs f n n)[j]? = some o → y ∈ o → cs[y]? = some (iv (it f (stp k (per f n y)) y : Nat))) ∧
     (∀ j' y : Nat, j' < j → y = it f j' t → cs[y]? = some (iv (it f (stp k (per f n y)) y : Nat))) ∧ M = [] ∧
     T = (x :: iv k :: lget Y 0 :: lget Y 1 :: .v (.slice none 0 0) :: iv 0 :: lget Y 2 :: .slc b 0 n n :: lget Y 3 :: c :: iv (per f n t : Nat) :: iv (stp k (per f n t) : Nat) :: lget Y 4 :: lget Y 5 :: lget Y 6 :: lget Y 7 :: lget Y 8 :: lget Y 9 :: lget Y 10 :: lget Y 11 :: lget Y 12 :: lget Y 13 :: lget Y 14 :: s :: iv (cycs f n n).length :: iv (i : Nat) :: lget Y 15 :: lget Y 16 :: lget Y 17 :: lget Y 18 :: lget Y 19 :: lget Y 20 :: lget Y 21 :: lget Y 22 :: lget Y 23 :: lget Y 24 :: lget Y 25 :: lget Y 26 :: c :: iv (per f n t : Nat) :: iv (j : Nat) :: lget Y 27 :: lget Y 28 :: lget Y 29 :: lget Y 30 :: lget Y 31 :: lget Y 32 :: lget Y 33 :: lget Y 34 :: lget Y 35 :: lget Y 36 :: lget Y 37 :: lget Y 38 :: lget Y 39 :: lget Y 40 :: lget Y 41 :: lget Y 42 :: lget Y 43 :: lget Y 44 :: [])) (per f n t)
   ⟨0, [_,_,_,_,_,_,_,_,_,_,_,_,_,_,_,_,_,_,_,_,_,_,_,_,_,_,_,_,_,_,_,_,_,_,_,_,_,_,_,_,_,_,_,_,_], cs, rfl, Nat.zero_le _, hn', hgl', hg', hgb, hcs, hdone, fun j' y h => absurd h (by omega), rfl, rfl⟩ ?_
 clear hgb hcs hdone hg' hgl' hn' hKH hSl hcS
 rintro q2 T M H' ⟨j, Y, cs, hq2, hj, hn', hgl', hg', hgb, hcs, hdone, hdone2, rfl, rfl⟩
 have hcS : True ∧ Sl H' c (nvs (orb f n t)) := ⟨trivial, hc1.frame hgl' fun d hd => hg' d (hcb d hd)⟩
 repeat (first | apply qN | refine qM rfl rfl ?_ | refine zq4 rfl rfl rfl rfl (inc (by omega)) ?_ | refine zq5 rfl rfl rfl rfl rfl ‹_› ?_ | refine zq6 rfl rfl ‹_› ?_ | refine qT rfl ?_ | refine qF rfl ?_ | apply qR | apply qS | apply qK | apply qE | apply qB)
 refine wops_cons (wop_cmp rfl rfl rfl rfl rfl (fun h => ?_) (fun h => ?_))
 rotate_left
 · have h : ¬ ((j : Int) < per f n t) := of_decide_eq_false h
   have e : j = per f n t := by omega
   repeat (first | apply qN | refine qM rfl rfl ?_ | refine zq4 rfl rfl rfl rfl (inc (by omega)) ?_ | refine zq5 rfl rfl rfl rfl rfl ‹_› ?_ | refine zq6 rfl rfl ‹_› ?_ | refine qT rfl ?_ | refine qF rfl ?_ | apply qR | apply qS | apply qK | apply qE | apply qB)
   refine ⟨(cycs f n n).length - (i + 1), by omega, i + 1, [_,_,_,_,_,_,_,_,_,_,_,_,_,_,_,_,_,_,_,_,_,_,_,_,_,_,_,_,_,_,_,_,_,_,_,_,_,_,_,_,_,_,_,_,_,_,_,_,_,_,_], cs, rfl, by omega, hn', hgl', hg', hgb, hcs, fun j' y o hj' hoj hy => ?_, rfl, rfl⟩
   by_cases ej : j' = i
   · subst ej
     rw [hoi] at hoj
     cases hoj
     obtain ⟨m, hm, hmy⟩ := List.mem_map.1 hy
     exact hdone2 m y (by have := List.mem_range.1 hm; omega) hmy.symm
   · exact hdone j' y o (by omega) hoj hy
 have h : (j : Int) < per f n t := of_decide_eq_true h
 have hjp : j < per f n t := by omega
 have hitn := hpm.it_lt ht j
 repeat (first | apply qN | refine qM rfl rfl ?_ | refine zq4 rfl rfl rfl rfl (inc (by omega)) ?_ | refine zq5 rfl rfl rfl rfl rfl ‹_› ?_ | refine zq6 rfl rfl ‹_› ?_ | refine qT rfl ?_ | refine qF rfl ?_ | apply qR | apply qS | apply qK | apply qE | apply qB)
 refine wops_cons (o_index rfl rfl hcS.2 rfl (nvs_get (orb_get hjp)) fun pt2 hpt2 => ?_)
 repeat (first | apply qN | refine qM rfl rfl ?_ | refine zq4 rfl rfl rfl rfl (inc (by omega)) ?_ | refine zq5 rfl rfl rfl rfl rfl ‹_› ?_ | refine zq6 rfl rfl ‹_› ?_ | refine qT rfl ?_ | refine qF rfl ?_ | apply qR | apply qS | apply qK | apply qE | apply qB)
 refine wops_cons (wop_bin (op := .add) (v := .int .i64 ((j + stp k (per f n t) : Nat) : Int)) rfl rfl rfl rfl ?_ ?_)
 · show some (Value.int .i64 (IntKind.i64.wrap ((j : Int) + (stp k (per f n t) : Nat)))) = _
   rw [wrap_id (by omega) (by omega)]; rfl
 repeat (first | apply qN | refine qM rfl rfl ?_ | refine zq4 rfl rfl rfl rfl (inc (by omega)) ?_ | refine zq5 rfl rfl rfl rfl rfl ‹_› ?_ | refine zq6 rfl rfl ‹_› ?_ | refine qT rfl ?_ | refine qF rfl ?_ | apply qR | apply qS | apply qK | apply qE | apply qB)
 refine wops_cons (wop_rem rfl rfl rfl rfl (by omega) ?_)
 rw [show (((j + stp k (per f n t) : Nat) : Int)).tmod (per f n t : Nat) = (((j + stp k (per f n t)) % per f n t : Nat) : Int) from rfl]
 have hmod : (j + stp k (per f n t)) % per f n t < per f n t := Nat.mod_lt _ hpp
 refine wops_cons (o_index rfl rfl hcS.2 rfl (nvs_get (orb_get hmod)) fun pt3 hpt3 => ?_)
 repeat (first | apply qN | refine qM rfl rfl ?_ | refine zq4 rfl rfl rfl rfl (inc (by omega)) ?_ | refine zq5 rfl rfl rfl rfl rfl ‹_› ?_ | refine zq6 rfl rfl ‹_› ?_ | refine qT rfl ?_ | refine qF rfl ?_ | apply qR | apply qS | apply qK | apply qE | apply qB)
 refine wops_cons (o_indexOwn rfl rfl rfl rfl hitn ?_)
 refine wops_cons (o_store rfl rfl rfl hgb (by omega) rfl ?_)
 repeat (first | apply qN | refine qM rfl rfl ?_ | refine zq4 rfl rfl rfl rfl (inc (by omega)) ?_ | refine zq5 rfl rfl rfl rfl rfl ‹_› ?_ | refine zq6 rfl rfl ‹_› ?_ | refine qT rfl ?_ | refine qF rfl ?_ | apply qR | apply qS | apply qK | apply qE | apply qB)
 have hval : ∀ y, y = it f j t → it f ((j + stp k (per f n t)) % per f n t) t = it f (stp k (per f n y)) y := fun y hy => by
   subst hy
   rw [hpm.it_mod ht, hpm.per_it ht, ← it_add, Nat.add_comm]
 have hset : ∀ y v, cs[y]? = some (iv (it f (stp k (per f n y)) y : Nat)) → v = it f j t → (cs.set v (iv (it f ((j + stp k (per f n t)) % per f n t) t : Nat)))[y]? = some (iv (it f (stp k (per f n y)) y : Nat)) := fun y v hy hv => by
   by_cases e : y = v
   · subst e
     rw [List.getElem?_set_self (by have := (List.getElem?_eq_some_iff.1 hy).1; omega), hval y hv]
   · rw [List.getElem?_set_ne (Ne.symm e)]; exact hy
 refine ⟨per f n t - (j + 1), by omega, j + 1, [_,_,_,_,_,_,_,_,_,_,_,_,_,_,_,_,_,_,_,_,_,_,_,_,_,_,_,_,_,_,_,_,_,_,_,_,_,_,_,_,_,_,_,_,_], cs.set (it f j t) (iv (it f ((j + stp k (per f n t)) % per f n t) t : Nat)), rfl, by omega, hn', hgl', fun d hd => (get_set_ne hb39 hd).trans (hg' d hd), get_set_eq hb39, by simpa using hcs, fun j' y o hj' hoj hy => hset y _ (hdone j' y o hj' hoj hy) rfl, fun j' y hj' hy => ?_, rfl, rfl⟩
 by_cases e : j' = j
 · subst e
   subst hy
   rw [List.getElem?_set_self (by omega), hval _ rfl]
 · exact hset y _ (hdone2 j' y (by omega) hy) rfl
end Go.Ev
namespace Go.Ev
open Go.Proofs
section
variable {f : Nat → Nat} {n : Nat}
def lcmL (l : List Nat) : Nat := l.foldl Nat.lcm 1
theorem foldl_lcm_dvd {l : List Nat} {a i : Nat} : l.foldl Nat.lcm a ∣ i ↔ a ∣ i ∧ ∀ m ∈ l, m ∣ i := by
 induction l generalizing a with
 | nil => simp
 | cons x l ih =>
   rw [List.foldl_cons, ih]
   constructor
   · rintro ⟨h1, h2⟩
     exact ⟨Nat.dvd_trans (Nat.dvd_lcm_left a x) h1, fun m hm => by
       rcases List.mem_cons.1 hm with rfl | hm
       · exact Nat.dvd_trans (Nat.dvd_lcm_right a m) h1
       · exact h2 m hm⟩
   · rintro ⟨h1, h2⟩
     exact ⟨Nat.lcm_dvd h1 (h2 x (by simp)), fun m hm => h2 m (by simp [hm])⟩
theorem lcmL_dvd {l : List Nat} {i : Nat} : lcmL l ∣ i ↔ ∀ m ∈ l, m ∣ i := by
 unfold lcmL; rw [foldl_lcm_dvd]; simp
def perd (f : Nat → Nat) (n : Nat) : Nat := lcmL ((cycs f n n).map List.length)
theorem Pm.it_id (h : Pm f n) {x i : Nat} (hx : x < n) : it f i x = x ↔ per f n x ∣ i := by
 constructor
 · intro e
   rw [← h.it_mod hx] at e
   refine Nat.dvd_of_mod_eq_zero ?_
   rcases Nat.eq_zero_or_pos (i % per f n x) with h0 | h0
   · exact h0
   · exact ((h.per_spec hx).2.2 _ h0 (Nat.mod_lt _ (per_pos f n x)) e).elim
 · rintro ⟨k, rfl⟩
   exact h.it_mul hx k
theorem Pm.round (h : Pm f n) {i : Nat} : (∀ x, x < n → it f i x = x) ↔ perd f n ∣ i := by
 unfold perd
 rw [lcmL_dvd]
 constructor
 · intro hx m hm
   obtain ⟨o, ho, rfl⟩ := List.mem_map.1 hm
   obtain ⟨s, hs, rfl⟩ := cycs_mem ho
   rw [orb_length]
   exact (h.it_id hs).1 (hx s hs)
 · intro hm x hx
   obtain ⟨o, ho, hxo⟩ := h.cycs_all hx
   obtain ⟨s, hs, rfl⟩ := cycs_mem ho
   obtain ⟨k, rfl⟩ := (h.mem_orb hs).1 hxo
   have := hm (orb f n s).length (List.mem_map.2 ⟨_, ho, rfl⟩)
   rw [orb_length] at this
   exact (h.it_id hx).2 (by rw [h.per_it hs]; exact this)
end
theorem stp_emod (k : Int) {p : Nat} (hp : 0 < p) : ((stp k p : Nat) : Int) = k % (p : Int) := by
 have h1 := tmod_range k hp
 have h0 : 0 ≤ (k.tmod p + p).tmod p := Int.tmod_nonneg _ (by omega)
 unfold stp
 rw [Int.toNat_of_nonneg h0, Int.tmod_eq_emod_of_nonneg (by omega), Int.add_emod_right]
 have h2 : (k.tmod p) % (p : Int) = k % p := by
   have e : k = p * (k.tdiv p) + k.tmod p := (Int.mul_tdiv_add_tmod k p).symm
   conv => rhs; rw [e]
   rw [Int.add_comm, Int.add_mul_emod_self_left]
 exact h2
theorem powL_length (l : List Int) (k : Int) : (powL' l k).length = l.length := by simp [powL']
theorem powL_get {l : List Int} {k : Int} {x : Nat} (hx : x < l.length) : (powL' l k)[x]? = some ((it (fOf l) (stp k (per (fOf l) l.length x)) x : Nat) : Int) := by
 simp [powL', hx]
end Go.Ev
namespace Go.Ev
open Go.Proofs
theorem o_build2 {O : CallF} {T : List AV} {H : AH} {ops : Array Oper} {o : Oper} {K : AV → AH → Prop} {t e : TypeId} {x y : Operand} {z0 : Value} (ho : o.op = .buildSlice t 2 #[(0, x), (1, y)]) (hg : wantedA o ops T = true) [hu : TyS t e] [hs : Cell e] [hz : Zero e z0] (h1 : (av T x).one = true) (h2 : (av T y).one = true) (hr : H.next < 2 ^ 39)
   (hk : K (.slc H.next 0 2 2) (H.add (.cells [av T x, av T y] e 0))) : WOp (ENV O) ops o T H K := by
 refine wop_val (by rw [ho]; rfl) hg (r := .slc H.next 0 2 2) (H' := H.add (.cells [av T x, av T y] e 0)) ?_ (Nat.le_succ _) hk
 have hlt : Nat.blt H.next (2 ^ 39) = true := Nat.ble_eq_true_of_le hr
 unfold opEval; rw [ho]
 simp only [ENV, buildSliceA, hu.u, hs.s, hz.z, hz.c]
 rw [if_pos (by decide)]
 simp [fillA, cells_one h1, cells_one h2, wr, newA, hlt]
 rw [List.drop_eq_nil_of_le (by simp)]
theorem okP_perm {n : Nat} {P : List Int} (h : InR n P) (hn : P.length = n) (hP : p240 P = idL n) : OkP P := by
 refine ⟨fun i z hz => by have := h z (List.mem_of_getElem? hz); omega, fun k i z hki h1 h2 => ?_⟩
 have hk := (List.getElem?_eq_some_iff.1 h1).1
 have hi := (List.getElem?_eq_some_iff.1 h2).1
 have e := thr_inj h hn hP (x := (k : Int)) (y := (i : Int)) (by omega) (by omega) (by rw [Int.toNat_natCast, Int.toNat_natCast, List.getD_eq_getElem?_getD, List.getD_eq_getElem?_getD, h1, h2])
 omega
theorem pow_now {P l : List Int} (h : OkP P) (hl : InR P.length l) (k : Nat) : (l.map fun z => (powL' P (k : Int)).getD z.toNat 0) = nowL P l k := by
 rw [now_map P l k]
 refine List.map_congr_left fun z hz => ?_
 have hzb := hl z hz
 have hx : z.toNat < P.length := by omega
 have e1 : (nowL P [z] k).getD 0 0 = ((it (fOf P) k z.toNat : Nat) : Int) := by
   induction k with
   | zero => show z = ((z.toNat : Nat) : Int); omega
   | succ k ih =>
     have h1 : (nowL P [z] k).length = 1 := now_length P [z] k
     obtain ⟨w, hw⟩ := List.length_eq_one_iff.1 h1
     rw [hw] at ih
     have ih : w = ((it (fOf P) k z.toNat : Nat) : Int) := ih
     show (thr P (nowL P [z] k)).getD 0 0 = _
     rw [hw]
     show P.getD w.toNat 0 = _
     rw [ih, Int.toNat_natCast, List.getD_eq_getElem?_getD, h.f_get (h.pm.it_lt hx k)]
     rfl
 rw [e1, List.getD_eq_getElem?_getD, powL_get hx]
 show ((it (fOf P) (stp (k : Int) (per (fOf P) P.length z.toNat)) z.toNat : Nat) : Int) = _
 have h1 : stp (k : Int) (per (fOf P) P.length z.toNat) = k % per (fOf P) P.length z.toNat := by
   have : ((stp (k : Int) (per (fOf P) P.length z.toNat) : Nat) : Int) = ((k % per (fOf P) P.length z.toNat : Nat) : Int) := by rw [stp_emod k (per_pos _ _ _)]; rfl
   exact Int.ofNat.inj this
 rw [h1, h.pm.it_mod hx]
variable {O : CallF} (hq : Quiet O)
include hq
theorem c28 (H : AH) (a x y : AV) (m : Mc) (l : List Int) (n N k : Nat) (ha : a.cells = mc m x) (hx : Sl H x (ivs m.sw)) (ho : Old H x) (hy : Sl H y (ivs l)) (hoy : Old H y) (hcap : CapOk y) (hG : GoodL m l n N) (hOk : OkP (permL m n)) (hkb : k ≤ 999999999) (hr : H.next + 1000000 < 2 ^ 39)
   (K : AV → AH → Prop) (hk : ∀ (H' : AH) (r : AV), Keeps H H' → H'.next ≤ H.next + 200000 → Nw H' r (nowL (permL m n) l k) → K (.tup [r, iv 0]) H') : Ca (ENV O) 28 [a, y, iv (k : Int)] H K := by
 have hll := hG.hll
 have hsl := hG.hsl
 have hg := hG.hg
 have hn16 := hG.hn
 have hPl : (permL m n).length = 4 * n := by rw [permL_length, hg]; rfl
 refine ca_intro (hq _ _ _ rfl) (fn := Tryz.f28) (by rfl) rfl ?_
 repeat (first | apply qN | refine qM rfl rfl ?_ | refine zq6 rfl rfl ‹_› ?_ | refine zqb rfl rfl rfl ‹_› ?_ | refine zq9 rfl rfl rfl rfl ?_ | refine qT rfl ?_ | refine qF rfl ?_ | apply qR | apply qS | apply qK)
 refine wops_cons (o_boxM rfl rfl ha (by omega) fun H1 n1 k1 b1 => ?_)
 repeat (first | apply qN | refine qM rfl rfl ?_ | refine zq6 rfl rfl ‹_› ?_ | refine zqb rfl rfl rfl ‹_› ?_ | refine zq9 rfl rfl rfl rfl ?_ | refine qT rfl ?_ | refine qF rfl ?_ | apply qR | apply qS | apply qK)
 refine wops_cons (wop_callF rfl rfl rfl (fn := Tryz.f27) (by rfl) ?_)
 refine c27 hq H1 _ x y m l rfl (hx.keep ho k1) (ho.keep k1) (hy.keep hoy k1) (hoy.keep k1) hcap (by omega) (by omega) (by omega) _ fun H2 k2 n2 => ⟨k2.nx, ?_⟩
 rw [hG.hc]
 have k12 := k1.trans k2
 have b2 := b1.keep (by omega) k2
 repeat (first | apply qN | refine qM rfl rfl ?_ | refine zq6 rfl rfl ‹_› ?_ | refine zqb rfl rfl rfl ‹_› ?_ | refine zq9 rfl rfl rfl rfl ?_ | refine qT rfl ?_ | refine qF rfl ?_ | apply qR | apply qS | apply qK)
 refine wops_cons (wop_callF rfl rfl rfl (fn := Tryz.f73) (by rfl) ?_)
 refine c73 hq H2 (k : Int) 0 999999999 _ ⟨Nat.le_refl _, ?_⟩
 rw [show inB (k : Int) 0 999999999 = true by simp only [inB, decide_eq_true_eq]; omega, if_pos rfl]
 have r2 : H2.next < 2 ^ 39 := by omega
 have h2n := k2.nx
 refine wops_cons (o_build2 rfl rfl rfl rfl r2 ?_)
 refine WOps.mem (fun H3 => Keeps H H3 ∧ H3.next = H2.next + 1 ∧ Bx H3 H.next 24 m x ∧ Sl H3 (.slc H2.next 0 2 2) (ivs [0, 0])) ⟨k12.add _ r2, rfl, b2.keep (by omega) ((Keeps.refl H2).add _ r2), sl_new r2 2⟩ ?_
 rintro H3 ⟨k3, n3, b3, hs3⟩
 repeat (first | apply qN | refine qM rfl rfl ?_ | refine zq6 rfl rfl ‹_› ?_ | refine zqb rfl rfl rfl ‹_› ?_ | refine zq9 rfl rfl rfl rfl ?_ | refine qT rfl ?_ | refine qF rfl ?_ | apply qR | apply qS | apply qK)
 refine wops_cons (wop_callF rfl rfl rfl (fn := Tryz.f72) (by rfl) ?_)
 refine c72 hq H3 _ [0, 0] hs3 (by decide) _ ⟨Nat.le_refl _, ?_⟩
 clear hs3
 repeat (first | apply qN | refine qM rfl rfl ?_ | refine zq6 rfl rfl ‹_› ?_ | refine zqb rfl rfl rfl ‹_› ?_ | refine zq9 rfl rfl rfl rfl ?_ | refine qT rfl ?_ | refine qF rfl ?_ | apply qR | apply qS | apply qK)
 refine wops_cons (wop_bin (op := .neq) (v := .bool false) rfl rfl rfl rfl rfl ?_)
 repeat (first | apply qN | refine qM rfl rfl ?_ | refine zq6 rfl rfl ‹_› ?_ | refine zqb rfl rfl rfl ‹_› ?_ | refine zq9 rfl rfl rfl rfl ?_ | refine qT rfl ?_ | refine qF rfl ?_ | apply qR | apply qS | apply qK)
 refine wops_cons (wop_callF rfl rfl rfl (fn := Tryz.f18) (by rfl) ?_)
 refine c18 hq H3 _ x m n rfl (hx.keep ho k3) (ho.keep k3) hsl hg hG.hn1 hn16 hG.hm0 (by omega) _ fun H4 P k4 n4 hw4 => ⟨k4.nx, ?_⟩
 repeat (first | apply qN | refine qM rfl rfl ?_ | refine zq6 rfl rfl ‹_› ?_ | refine zqb rfl rfl rfl ‹_› ?_ | refine zq9 rfl rfl rfl rfl ?_ | refine qT rfl ?_ | refine qF rfl ?_ | apply qR | apply qS | apply qK)
 refine wops_cons (wop_callF rfl rfl rfl (fn := Tryz.f86) (by rfl) ?_)
 refine c86 hq H4 P (permL m n) (k : Int) hw4.sl hw4.old (by omega) _ fun H5 c k5 n5 hs5 ho5 => ⟨k5.nx, ?_⟩
 have hpe : permE (permL m n) = 0 := permE_ok (by omega) hOk
 rw [show powS (permL m n) (k : Int) = (powL' (permL m n) k, 0) by rw [powS, if_neg (by simp [hpe])]] at hs5 ⊢
 have k05 := (k3.trans k4).trans k5
 repeat (first | apply qN | refine qM rfl rfl ?_ | refine zq6 rfl rfl ‹_› ?_ | refine zqb rfl rfl rfl ‹_› ?_ | refine zq9 rfl rfl rfl rfl ?_ | refine qT rfl ?_ | refine qF rfl ?_ | apply qR | apply qS | apply qK)
 refine wops_cons (wop_callF rfl rfl rfl (fn := Tryz.f78) (by rfl) ?_)
 refine c78 hq H5 c y _ l hs5 ho5 (hy.keep hoy k05) (hoy.keep k05) (fun z hz => by rw [powL_length, hPl]; exact hG.hl z hz) (by omega) (by omega) _ fun H6 r k6 n6 hw6 => ⟨k6.nx, ?_⟩
 rw [pow_now hOk (by rw [hPl]; exact hG.hl) k] at hw6
 repeat (first | apply qN | refine qM rfl rfl ?_ | refine zq6 rfl rfl ‹_› ?_ | refine zqb rfl rfl rfl ‹_› ?_ | refine zq9 rfl rfl rfl rfl ?_ | refine qT rfl ?_ | refine qF rfl ?_ | apply qR | apply qS | apply qK)
 refine wp_ret ?_
 exact ⟨_, _, rfl, hk H6 r (k05.trans k6) (by omega) hw6⟩
end Go.Ev
namespace Go.Ev
open Go.Proofs
theorem ldE_zero {m : Mc} : ∀ {s l : List Int}, ldE m s l = 0 ↔ (∀ z ∈ l, 0 ≤ z ∧ z ≤ 4 * m.g - 1) ∧ l.Nodup ∧ ∀ z ∈ l, z ∉ s
 | s, [] => by simp [ldE]
 | s, z :: l => by
   rw [ldE_cons]
   by_cases h1 : inB z 0 (4 * m.g - 1) = false
   · rw [if_pos h1]
     constructor
     · intro h; cases h
     · rintro ⟨h2, _⟩
       have := h2 z (by simp)
       simp only [inB, decide_eq_false_iff_not] at h1
       exact absurd this h1
   · rw [if_neg h1]
     have h1' : 0 ≤ z ∧ z ≤ 4 * m.g - 1 := by
       have : inB z 0 (4 * m.g - 1) = true := by simpa using h1
       exact of_decide_eq_true this
     by_cases h2 : s.contains z = true
     · rw [if_pos h2]
       constructor
       · intro h; cases h
       · rintro ⟨_, _, h3⟩
         exact absurd (List.contains_iff_mem.1 h2) (h3 z (by simp))
     · rw [if_neg h2, ldE_zero]
       have h2' : z ∉ s := fun h => h2 (List.contains_iff_mem.2 h)
       constructor
       · rintro ⟨h3, h4, h5⟩
         refine ⟨fun y hy => ?_, List.nodup_cons.2 ⟨fun hz => ?_, h4⟩, fun y hy => ?_⟩
         · rcases List.mem_cons.1 hy with rfl | hy
           · exact h1'
           · exact h3 y hy
         · exact h5 z hz (by simp)
         · rcases List.mem_cons.1 hy with rfl | hy
           · exact h2'
           · exact fun h => h5 y hy (by simp [h])
       · rintro ⟨h3, h4, h5⟩
         obtain ⟨h6, h7⟩ := List.nodup_cons.1 h4
         refine ⟨fun y hy => h3 y (by simp [hy]), h7, fun y hy hm => ?_⟩
         rcases List.mem_append.1 hm with h | h
         · exact h5 y (by simp [hy]) h
         · rw [List.mem_singleton.1 h] at hy; exact h6 hy
theorem lE_zero {m : Mc} {l : List Int} {n : Nat} (hg : m.g = n) : lE m l = 0 ↔ l.length ≤ 4 * n ∧ InR (4 * n) l ∧ l.Nodup := by
 unfold lE
 by_cases h : 4 * m.g < l.length
 · rw [if_pos h]
   constructor
   · intro e; cases e
   · rintro ⟨h1, _⟩; omega
 · rw [if_neg h, ldE_zero]
   constructor
   · rintro ⟨h1, h2, _⟩
     exact ⟨by omega, fun z hz => by have := h1 z hz; omega, h2⟩
   · rintro ⟨_, h1, h2⟩
     exact ⟨fun z hz => by have := h1 z hz; omega, h2, fun z _ => by simp⟩
theorem thr_nodup {n : Nat} {P l : List Int} (h : InR n P) (hn : P.length = n) (hP : p240 P = idL n) (hl : InR n l) (hd : l.Nodup) : (thr P l).Nodup := by
 unfold thr
 rw [List.nodup_iff_pairwise_ne, List.pairwise_map]
 refine (List.nodup_iff_pairwise_ne.1 hd).imp_of_mem fun ha hb hne e => hne (thr_inj h hn hP (hl _ ha) (hl _ hb) e)
theorem now_nodup {n : Nat} {P l : List Int} (h : InR n P) (hn : P.length = n) (hP : p240 P = idL n) (hl : InR n l) (hd : l.Nodup) : ∀ k, (nowL P l k).Nodup
 | 0 => hd
 | k + 1 => thr_nodup h hn hP (now_in h hn hl k) (now_nodup h hn hP hl hd k)
structure Six (m : Mc) (l : List Int) (n : Nat) : Prop where
 hg : m.g = n
 hn1 : 1 ≤ n
 hn : n ≤ 6
 hm0 : mE m = 0
 hsw : m.sw.length ≤ 19
 hll : l.length ≤ 6
 hle : l.length ≤ 4 * n
 hl : InR (4 * n) l
 hd : l.Nodup
 hP : InR (4 * n) (permL m n)
 hPl : (permL m n).length = 4 * n
 hpp : p240 (permL m n) = idL (4 * n)
theorem six_of {m : Mc} {l : List Int} (h : fitsB m l 6 6 = true) : ∃ n, Six m l n := by
 unfold fitsB at h
 simp only [Bool.and_eq_true, decide_eq_true_eq] at h
 obtain ⟨⟨⟨⟨h1, h2⟩, h3⟩, h4⟩, h5⟩ := h
 have hm : mE m = 0 := by
   unfold cE at h5
   split at h5
   · rename_i h6; exact absurd h5 h6
   · rename_i h6; simpa using h6
 have hlE : lE m l = 0 := by
   unfold cE at h5
   rw [if_neg (by simp [hm])] at h5
   exact h5
 have hgb := mE_g hm
 have hok := okM_all hm h3
 obtain ⟨n, hn⟩ := Int.eq_ofNat_of_zero_le (show 0 ≤ m.g by omega)
 have hgn : m.g = (n : Int) := hn
 obtain ⟨e1, e2, e3⟩ := (lE_zero hgn).1 hlE
 have ht : m.g.toNat = n := by omega
 unfold okM at hok
 rw [ht] at hok
 simp only [Bool.and_eq_true, decide_eq_true_eq, List.all_eq_true] at hok
 have hPl : (permL m n).length = 4 * n := by rw [permL_length, ht]
 exact ⟨n, hgn, by omega, by omega, hm, h1, by omega, e1, e2, e3, fun z hz => by have := hok.2 z hz; omega, hPl, hok.1⟩
theorem Six.okP {m : Mc} {l : List Int} {n : Nat} (h : Six m l n) : OkP (permL m n) := okP_perm h.hP h.hPl h.hpp
theorem Six.cE {m : Mc} {l : List Int} {n : Nat} (h : Six m l n) : cE m l = 0 := by
 unfold Go.Ev.cE
 rw [if_neg (by simp [h.hm0])]
 exact (lE_zero h.hg).2 ⟨h.hle, h.hl, h.hd⟩
theorem Six.good {m : Mc} {l : List Int} {n : Nat} (h : Six m l n) : GoodL m l n 240 :=
 ⟨h.hg, h.hn1, by have := h.hn; omega, h.hm0, by have := h.hsw; omega, by have := h.hll; omega, h.cE, h.hl, h.hP, by decide, now_240 h.hP h.hPl h.hpp h.hl, by decide⟩
theorem Six.now {m : Mc} {l : List Int} {n : Nat} (h : Six m l n) (k : Nat) : Six m (nowL (permL m n) l k) n :=
 { h with hll := by rw [now_length]; exact h.hll, hle := by rw [now_length]; exact h.hle, hl := now_in h.hP h.hPl h.hl k, hd := now_nodup h.hP h.hPl h.hpp h.hl h.hd k }
theorem Six.tail {m : Mc} {l : List Int} {n : Nat} {z : Int} (h : Six m (z :: l) n) : Six m l n :=
 { h with hll := by have := h.hll; rw [List.length_cons] at this; omega, hle := by have := h.hle; rw [List.length_cons] at this; omega, hl := fun y hy => h.hl y (by simp [hy]), hd := (List.nodup_cons.1 h.hd).2 }
theorem Six.lE {m : Mc} {l : List Int} {n : Nat} (h : Six m l n) : lE m l = 0 := (lE_zero h.hg).2 ⟨h.hle, h.hl, h.hd⟩
theorem mE_ring {m : Mc} {n : Nat} (hg : m.g = n) (h : mE m = 0) : m.ring = true → n % 2 = 0 := by
 intro hr
 unfold mE at h
 split at h
 · cases h
 split at h
 · cases h
 rename_i h2
 have h3 : ¬ m.g.tmod 2 = 1 := fun e => h2 ⟨hr, e⟩
 rw [hg, tm (by omega)] at h3
 omega
theorem never_now {m : Mc} {l : List Int} {n : Nat} (h : never m l n) (k : Nat) : never m (nowL (permL m n) l k) n := fun j => by
 have := h (j + k)
 rw [now_add] at this
 exact this
theorem now_cons (P : List Int) (z : Int) (l : List Int) : ∀ k, nowL P (z :: l) k = (nowL P [z] k).getD 0 0 :: nowL P l k := fun k => by
 rw [now_map P (z :: l) k, now_map P l k]; rfl
theorem never_tail {m : Mc} {l : List Int} {n : Nat} {z : Int} (h : never m (z :: l) n) : never m l n := fun j p h1 h2 => by
 have := h j p h1 h2
 rw [now_cons] at this
 exact mtB_sub (fun y hy => by simp [hy]) this
def Res (m : Mc) (l : List Int) (n k p : Nat) (e : Int) : Prop :=
 (e = 0 ∧ mtF m (nowL (permL m n) l k) p ∧ (∀ j, j < k → mtN m (nowL (permL m n) l j)) ∧ k < 240) ∨ (e = 7 ∧ k = 0 ∧ p = 0 ∧ never m l n)
theorem res_meet {m : Mc} {l : List Int} {n k p i q : Nat} {e : Int} (h : Res m l n k p e) (hno : ∀ j, j < i → mtN m (nowL (permL m n) l j)) (hq : mtF m (nowL (permL m n) l i) q) : e = 0 ∧ k = i ∧ p = q := by
 rcases h with ⟨h1, h2, h3, h4⟩ | ⟨_, _, _, h4⟩
 · have hk : k = i := by
     rcases Nat.lt_trichotomy k i with hl | he | hl
     · exact (mtF_not h2 (hno k hl)).elim
     · exact he
     · exact (mtF_not hq (h3 i hl)).elim
   subst hk
   exact ⟨h1, rfl, mtF_inj h2 hq⟩
 · exact (mtF_not hq (h4 i)).elim
theorem res_none {m : Mc} {l : List Int} {n k p i : Nat} {e : Int} (h : Res m l n k p e) (hq : mtN m (nowL (permL m n) l i)) : ¬ (e = 0 ∧ k = i) := by
 rintro ⟨h1, h2⟩
 rcases h with ⟨_, h3, _, _⟩ | ⟨h3, _⟩
 · rw [h2] at h3; exact mtF_not h3 hq
 · omega
theorem res_end {m : Mc} {l : List Int} {n k p : Nat} {e : Int} (h : Res m l n k p e) (hno : ∀ j, j < 800 → mtN m (nowL (permL m n) l j)) : e = 7 ∧ never m l n := by
 rcases h with ⟨_, h3, _, h5⟩ | ⟨h3, _, _, h4⟩
 · exact (mtF_not h3 (hno k (by omega))).elim
 · exact ⟨h3, h4⟩
end Go.Ev
namespace Go.Ev
open Go.Proofs
theorem first_sl {H : AH} {x : Value} {l : List AV} (h : Sl H (.v x) l) : lenA (.v x) = some l.length ∧ firstA 1 l.length (.v x) H = some l := by
 cases x with
 | slice a n cap =>
   obtain ⟨hn, h⟩ := h
   subst hn
   refine ⟨rfl, ?_⟩
   rcases h with rfl | ⟨b, off, vs, rfl, hgl, hv⟩
   · cases a with
     | none => rfl
     | some a => rfl
   · cases l with
     | nil => rfl
     | cons z l =>
       have hle : off + (l.length + 1) ≤ vs.length := by
         obtain ⟨w, hw⟩ : ∃ w, (z :: l)[l.length]? = some w := ⟨_, List.getElem?_eq_getElem (by simp)⟩
         obtain ⟨u, hu, _⟩ := hv _ _ hw
         have := (List.getElem?_eq_some_iff.1 hu).1
         omega
       unfold firstA
       simp only [List.length_cons, Nat.mul_one, show Nat.beq (l.length + 1) 0 = false from rfl, hgl]
       rw [if_pos (Nat.ble_eq_true_of_le hle)]
       congr 1
       apply List.ext_getElem?
       intro j
       rw [List.getElem?_map, List.getElem?_take, List.getElem?_drop]
       rcases Nat.lt_or_ge j (l.length + 1) with hj | hj
       · rw [if_pos hj]
         obtain ⟨w, hw⟩ : ∃ w, (z :: l)[j]? = some w := ⟨_, List.getElem?_eq_getElem (by simpa using hj)⟩
         obtain ⟨u, hu, rfl⟩ := hv _ _ hw
         rw [hu, hw]; rfl
       · rw [if_neg (by omega), List.getElem?_eq_none (by simpa using hj)]; rfl
 | _ => exact h.elim
theorem wop_appendE {E : Env} {T : List AV} {H : AH} {ops : Array Oper} {o : Oper} {K : AV → AH → Prop} {c : Call} {t xt e e' e0 : TypeId} {s x : Operand} {i : TypeInfo} {z : Value} {new : List AV} {b n g : Nat} (ho : o.op = .call c) (hg : wantedA o ops T = true) (hc : c.callee = .builtin .append) (hargs : c.args.toList = [s, x]) (ht : c.argTypes[0]? = some t) (hxt : c.argTypes[1]? = some xt)
   (hu : runPure E.P (underlying t) = some (.slice e)) (hux : runPure E.P (underlying xt) = some (.slice e')) (hi : runPure E.P (typeInfo e) = some i) (hs : runPure E.P (sizeOf e) = some 1) (hz : runPure E.P (zeroValue e) = some z) (hz0 : z.cells.size = 1) (hb : i.bytes ≤ 2 ^ 8)
   (hlen : n ≤ 2 ^ 30) (hr : H.next < 2 ^ 39) (hsx : av T s = .slc b 0 0 0) (hgb : H.get b = some (.cells [] e0 g)) (hn : lenA (av T x) = some n) (hf : firstA 1 n (av T x) H = some new) (h1 : new.all AV.one = true) (hnl : new.length = n)
   (hk0 : n = 0 → K (.slc b 0 0 0) (H.set b (some (.cells [] e0 g)))) (hk : 0 < n → K (.slu H.next 0 n 1) (H.add (.cells new e 1))) : WOp E ops o T H K := by
 have hlt : Nat.blt H.next (2 ^ 39) = true := Nat.ble_eq_true_of_le hr
 have e1 : Nat.ble ((0 + n) * i.bytes) (2 ^ 40) = true := Nat.ble_eq_true_of_le (by
   rw [Nat.zero_add]
   have := Nat.mul_le_mul hlen hb
   exact Nat.le_trans this (by decide))
 have e2 : Nat.ble (0 + n) (2 ^ 40) = true := Nat.ble_eq_true_of_le (by rw [Nat.zero_add]; exact Nat.le_trans hlen (by decide))
 have hf' : firstA (0 + 1) n (av T x) H = some new := hf
 have hall : (new.all AV.one && Nat.beq new.length (n * (0 + 1))) = true := by rw [h1, hnl]; simp
 rcases Nat.eq_zero_or_pos n with h0 | h0
 · subst h0
   have : new = [] := List.eq_nil_of_length_eq_zero hnl
   subst this
   refine wop_val (by rw [ho]; simp only [still, hc]) hg (r := .slc b 0 0 0) (H' := H.set b (some (.cells [] e0 g))) ?_ (Nat.le_refl _) (hk0 rfl)
   unfold opEval; rw [ho]
   simp only [oCall, hc, oBuiltin, hargs, appendA, ht, hxt, hu, hux, isIntD, hi, hs, hz, hz0, hn]
   rw [if_pos (by decide), hf']
   simp only
   rw [if_pos (by decide)]
   simp only [hsx]
   rw [if_pos (by decide)]
   simp only [storeA, hgb]
   rw [if_pos (by decide)]
   rfl
 · refine wop_val (by rw [ho]; simp only [still, hc]) hg (r := .slu H.next 0 n 1) (H' := H.add (.cells new e 1)) ?_ (Nat.le_succ _) (hk h0)
   unfold opEval; rw [ho]
   simp only [oCall, hc, oBuiltin, hargs, appendA, ht, hxt, hu, hux, isIntD, hi, hs, hz, hz0, hn]
   rw [if_pos (by decide), hf']
   simp only
   rw [if_pos hall]
   simp only [hsx]
   rw [if_neg (by intro h; have := Nat.le_of_ble_eq_true h; omega)]
   simp only [hgb]
   rw [if_pos (by rw [e1, e2]; simp)]
   simp only [newU, hlt, if_true, Option.map_some, Nat.zero_add]
   simp
theorem ivs_one (l : List Int) : (ivs l).all AV.one = true := by
 rw [List.all_eq_true]
 intro v hv
 obtain ⟨w, _, rfl⟩ := List.mem_map.1 hv
 rfl
structure Ky (H : AH) (v : AV) (l : List Int) : Prop where
 sl : Sl H v (ivs l)
 old : Old H v
 cap : CapOk v
 lk : ∀ b, v.own = some b → Lk H b
theorem Ky.keep {H H' : AH} {v : AV} {l : List Int} (h : Ky H v l) (k : Keeps H H') : Ky H' v l := ⟨h.sl.keep h.old k, h.old.keep k, h.cap, fun b hb => (h.lk b hb).keep k⟩
theorem Nw.ky {H : AH} {v : AV} {l : List Int} (h : Nw H v l) : Ky H v l := ⟨h.sl, h.old, h.cap, h.lk⟩
section
variable {O : CallF} {T : List AV} {H H0 : AH} {ops : Array Oper} {o : Oper} {i : Nat} {π : List Stp}
theorem o_build0 {K : AV → AH → Prop} {t e : TypeId} {z0 : Value} (ho : o.op = .buildSlice t 0 #[]) (hg : wantedA o ops T = true) [hu : TyS t e] [hs : Cell e] [hz : Zero e z0] (hr : H.next < 2 ^ 39)
   (hk : K (.slc H.next 0 0 0) (H.add (.cells [] e 0))) : WOp (ENV O) ops o T H K := by
 refine wop_val (by rw [ho]; rfl) hg (r := .slc H.next 0 0 0) (H' := H.add (.cells [] e 0)) ?_ (Nat.le_succ _) hk
 have hlt : Nat.blt H.next (2 ^ 39) = true := Nat.ble_eq_true_of_le hr
 unfold opEval; rw [ho]
 simp only [ENV, buildSliceA, hu.u, hs.s, hz.z, hz.c]
 rw [if_pos (by decide)]
 simp [fillA, newA, hlt]
theorem o_appendN {K : AV → AH → Prop} {c : Call} {t xt e' : TypeId} {s x : Operand} {y : Value} {l : List Int} {b : Nat} (ho : o.op = .call c) (hg : wantedA o ops T = true) (hc : c.callee = .builtin .append) (hargs : c.args.toList = [s, x]) (ht : c.argTypes.toList = [t, xt]) [hu : TyS t 3] [hux : TyS xt e']
   (hlen : l.length ≤ 2 ^ 30) (hr : H.next < 2 ^ 39) (hsx : av T s = .slc b 0 0 0) (hbn : b < H.next) (hgb : H.get b = some (.cells [] 3 0)) (hx : av T x = .v y) (hy : Sl H (.v y) (ivs l)) (hb0 : H0.next ≤ b) (hk0 : Keeps H0 H)
   (hk : ∀ a H4, Ky H4 a l → Keeps H0 H4 → H4.next ≤ H.next + 1 → K a H4) : WOp (ENV O) ops o T H K := by
 obtain ⟨f1, f2⟩ := first_sl hy
 rw [ivs_length] at f1 f2
 have hz : Zero 3 (.int .i64 0) := inferInstance
 have hs : Cell 3 := inferInstance
 have hb39 : b < 2 ^ 39 := by omega
 refine wop_appendE ho hg hc hargs (arg0 ht) (arg1 ht) hu.u hux.u hz.i hs.s hz.z (by rw [hz.c]; rfl) (Nat.le_of_ble_eq_true hz.b) hlen hr hsx hgb (by rw [hx]; exact f1) (by rw [hx]; exact f2) (ivs_one l) (ivs_length l) (fun h0 => ?_) (fun h0 => ?_)
 · have e : l = [] := List.eq_nil_of_length_eq_zero h0
   subst e
   refine hk _ _ ⟨⟨rfl, hb39, _, _, _, get_set_eq hb39, fun j v hv => by simp [ivs] at hv⟩, fun d hd => by cases hd; exact hbn, Nat.le_refl _, fun d hd => ?_⟩ (hk0.set _ hb0 hb39) (Nat.le_succ _)
   cases hd
   refine ⟨hbn, ?_⟩
   rw [get_set_eq hb39]
   simp [sameBlk, beqs]
 · refine hk _ _ ⟨⟨(ivs_length l).symm, hr, rfl, _, _, _, get_add_eq hr, fun j v hv => by rw [Nat.zero_add]; exact hv⟩, fun d hd => by cases hd; exact Nat.lt_succ_self _, trivial, fun d hd => ?_⟩ (hk0.add _ hr) (Nat.le_refl _)
   cases hd
   refine ⟨Nat.lt_succ_self _, ?_⟩
   rw [get_add_eq hr]
   simp [sameBlk, beqs_ivs]
theorem pure_sliceFrom {P : Program} {t e : TypeId} {a : Option Addr} {n cap : Nat} (hu : runPure P (underlying t) = some (.slice e)) (hs : runPure P (sizeOf e) = some 1) (hn : 1 ≤ n) :
   runPure P (Instr.sliceAt t (.slice a n cap) (some (.int .i64 1)) none none) = some (.slice (if cap = 1 then a else a.map (·.add (1 * 1))) (n - 1) (cap - 1)) := by
 unfold Instr.sliceAt Instr.slice
 simp only [runPure_bind, hu, Option.bind_some, Instr.sliceBounds, Instr.sliceBound, asIntOf, runPure_pure, hs]
 rw [if_pos (show 0 ≤ (1 : Int) ∧ (1 : Int) ≤ (n : Int) by omega)]
 simp only [runPure_pure, Option.bind_some]
 rfl
theorem sl_tail {H : AH} {a : Option Addr} {n cap : Nat} {z : Int} {l : List Int} (h : Sl H (.v (.slice a n cap)) (ivs (z :: l))) (hc : n ≤ cap) : Sl H (.v (.slice (if cap = 1 then a else a.map (·.add (1 * 1))) (n - 1) (cap - 1))) (ivs l) := by
 obtain ⟨hn, h⟩ := h
 rw [ivs_length, List.length_cons] at hn
 refine ⟨by rw [ivs_length]; omega, ?_⟩
 cases l with
 | nil => exact .inl rfl
 | cons y l =>
   rw [List.length_cons] at hn
   rcases h with h | ⟨b, off, vs, rfl, hgl, hv⟩
   · simp [ivs] at h
   · refine .inr ⟨b, off + 1, vs, ?_, hgl, fun j v hj => ?_⟩
     · rw [if_neg (by omega)]
       show some (Addr.add ⟨b, off, none⟩ (1 * 1)) = _
       rw [addr_plus]
     · obtain ⟨u, h1, h2⟩ := hv (j + 1) v (by simpa [ivs] using hj)
       exact ⟨u, by rw [Nat.add_assoc, Nat.add_comm 1 j]; exact h1, h2⟩
theorem k_slFrom1 {K : List AV → AH → Prop} {t e : TypeId} {x : Operand} {a : Option Addr} {n cap : Nat} (h1 : ops.toList[i]? = some o) (ho : o.op = .slice t x (some (.const (.int .i64 1))) none none) (hg : wantedA o ops T = true) [hu : TyS t e] [hs : Cell e] (hx : av T x = .v (.slice a n cap)) (hn : 1 ≤ n)
   (hk : WK (ENV O) ops H0 π (putA T o.dst (.v (.slice (if cap = 1 then a else a.map (·.add (1 * 1))) (n - 1) (cap - 1)))) H K) : WK (ENV O) ops H0 (.mob i :: π) T H K := by
 refine k_mob h1 hg (r := .v (.slice (if cap = 1 then a else a.map (·.add (1 * 1))) (n - 1) (cap - 1))) ?_ (fun b hb => ?_) hk
 · unfold mobEval
   rw [ho]
   simp only [hx, isV, if_true]
   unfold plainVal
   rw [ho]
   have h2 := pure_sliceFrom (P := Tryz.prog) (a := a) (n := n) (cap := cap) hu.u hs.s hn
   have hc : av T (.const (.int .i64 1)) = .v (.int .i64 1) := rfl
   simp only [ENV, execOp, ho, Op.operands, hx, hc, AV.plain, Option.getD_some, Option.map_none, Option.map_some, runPure_bind, h2, Option.bind_some, runPure_pure]
   simp [hx, hc, AV.plain]
 · unfold rdA at hb
   rw [ho] at hb
   simp only [hx] at hb
   cases hb
end
end Go.Ev
