/- Part of an evaluator of calls that is proved sound, and of what it gives about this program. No condition of its own. -/
import Derived.Test.YtcbmpnddhnkfnaaGreatDoorEvXi
set_option linter.unusedVariables false
set_option linter.unusedSimpArgs false
set_option linter.unusedSectionVars false
set_option maxRecDepth 1000000
set_option maxHeartbeats 16000000
namespace Go.Ev
open Go.Proofs
theorem firstNZ_bad' {e f : Int} (h : e ≠ 0) : firstNZ [e, f] = e := by simp [firstNZ, h]
variable {O : CallF} (hq : Quiet O)
include hq
theorem c5l (H : AH) (hA : ∀ H', H'.gl = H.gl → O 14 [] H' = some (.v (.bool true), H')) (a0 : AV) (xv yv : Value) (m : Mc) (l : List Int) (ha : a0.cells = mc m (.v xv)) (hx : Sl H (.v xv) (ivs m.sw))
   (hy : Sl H (.v yv) (ivs l)) (hcap : CapOk (.v yv)) (hr : H.next ≤ 1000) (K : AV → AH → Prop) (hk : ∀ H', K (.v (.bool true)) H') : Ca (ENV O) 5 [a0, .v yv] H K := by
 refine ca_intro (hq _ _ _ rfl) (fn := Tryz.f5) (by rfl) rfl ?_
 have hoy : Old H (.v yv) := Old.v _
 have ho : Old H (.v xv) := Old.v _
 have hLx : ∀ b, (AV.v xv).own = some b → Lk H b := fun b hb => by cases hb
 have hky : Ky H (.v yv) l := ⟨hy, hoy, hcap, fun b hb => by cases hb⟩
 repeat (first | apply qR | apply qS)
 refine wops_cons (o_boxM rfl rfl ha (by omega) fun H1 n1 k1 b1 => ?_)
 repeat (first | apply qN | refine qM rfl rfl ?_ | refine zqb rfl rfl rfl ‹_› ?_ | apply qR | apply qS)
 refine wops_cons (o_alloc4 rfl rfl (by omega) fun H3 n3 k3 b3 => ?_)
 refine wops_cons (o_store4 (H0 := H1) rfl rfl rfl rfl hx.one b3 (Nat.le_refl _) k3 fun H4 n4 k4 b4 g4 => ?_)
 have k04 := k1.trans k4
 have b24 := b1.keep (by omega) k4
 have hbm : H.next < H1.next := by omega
 have hbm4 : H1.next < H4.next := by omega
 have n4' : H4.next ≤ H.next + 10 := by omega
 generalize H1.next = bm at b4 hbm hbm4 ⊢
 clear b1 b3 g4 k1 k3 k4 n1 n3 n4
 repeat (first | apply qN | apply qR | apply qS)
 refine wops_cons (wop_callF rfl rfl rfl (fn := Tryz.f14) (by rfl) ?_)
 refine ca_oracle (hA _ k04.gl) ⟨Nat.le_refl _, ?_⟩
 repeat (first | refine qM rfl rfl ?_ | refine zqb rfl rfl rfl ‹_› ?_ | refine zq8 rfl rfl rfl ?_)
 refine wops_cons (wop_callF rfl rfl rfl (fn := Tryz.f15) (by rfl) ?_)
 refine c15 hq H4 _ (.v xv) _ m l rfl (hx.keep ho k04) (ho.keep k04) (hky.keep k04).sl (Old.v _) (by omega) _ fun H5 k5 n5 => ⟨k5.nx, ?_⟩
 have k05 := k04.trans k5
 have b25 := b24.keep (by omega) k5
 have b45 := b4.keep (by omega) k5
 by_cases hs : m.sw.length ≤ 19 ∧ l.length ≤ 67
 rotate_left
 · rw [decide_eq_false hs]
   repeat (first | apply qN | refine zq7 rfl rfl rfl ?_ | refine zq8 rfl rfl rfl ?_ | refine qT rfl ?_ | apply qR | apply qS)
   refine wops_cons (wop_callF rfl rfl rfl (fn := Tryz.f14) (by rfl) ?_)
   refine ca_oracle (hA _ k05.gl) ⟨Nat.le_refl _, ?_⟩
   repeat (first | apply qN | refine qM rfl rfl ?_)
   refine wp_ret ?_
   exact ⟨_, _, rfl, hk _⟩
 rw [decide_eq_true hs]
 repeat (first | apply qN | refine zqb rfl rfl rfl ‹_› ?_ | refine zq7 rfl rfl rfl ?_ | refine zq8 rfl rfl rfl ?_ | refine qF rfl ?_ | apply qR | apply qS | apply qK)
 refine wops_cons (wop_callF rfl rfl rfl (fn := Tryz.f16) (by rfl) ?_)
 refine c16 hq H5 _ (.v xv) m rfl (hx.keep ho k05) (ho.keep k05) (fun b hb => (hLx b hb).keep k05) (by omega) (by omega) _ fun H6 k6 n6 => ⟨k6.nx, ?_⟩
 have k06 := k05.trans k6
 have h45 := k5.nx
 have b26 := b25.keep (by omega) k6
 have b46 := b45.keep (by omega) k6
 have h56 := k6.nx
 have hbm6 : bm < H6.next := by omega
 have n6' : H6.next ≤ H.next + 1000 := by omega
 clear b24 b4 b25 b45 k04 k05 k5 k6 n5 n6 h45 h56 n4' hbm4
 refine WOps.cut (fun T => ∃ Y : List AV, T = (lget Y 0 :: .v yv :: .ptr H.next 0 :: lget Y 1 :: lget Y 2 :: .ptr bm 0 :: lget Y 3 :: lget Y 4 :: lget Y 5 :: lget Y 6 :: lget Y 7 :: lget Y 8 :: lget Y 9 :: lget Y 10 :: lget Y 11 :: lget Y 12 :: lget Y 13 :: lget Y 14 :: lget Y 15 :: lget Y 16 :: lget Y 17 :: lget Y 18 :: lget Y 19 :: lget Y 20 :: lget Y 21 :: iv (mE m) :: lget Y 22 :: lget Y 23 :: lget Y 24 :: lget Y 25 :: lget Y 26 :: lget Y 27 :: lget Y 28 :: lget Y 29 :: lget Y 30 :: lget Y 31 :: lget Y 32 :: lget Y 33 :: lget Y 34 :: lget Y 35 :: lget Y 36 :: lget Y 37 :: lget Y 38 :: lget Y 39 :: lget Y 40 :: lget Y 41 :: lget Y 42 :: lget Y 43 :: lget Y 44 :: lget Y 45 :: lget Y 46 :: lget Y 47 :: lget Y 48 :: lget Y 49 :: lget Y 50 :: lget Y 51 :: lget Y 52 :: lget Y 53 :: lget Y 54 :: lget Y 55 :: lget Y 56 :: lget Y 57 :: lget Y 58 :: lget Y 59 :: lget Y 60 :: lget Y 61 :: lget Y 62 :: lget Y 63 :: lget Y 64 :: lget Y 65 :: lget Y 66 :: lget Y 67 :: lget Y 68 :: lget Y 69 :: lget Y 70 :: lget Y 71 :: lget Y 72 :: lget Y 73 :: lget Y 74 :: lget Y 75 :: lget Y 76 :: lget Y 77 :: lget Y 78 :: lget Y 79 :: lget Y 80 :: lget Y 81 :: lget Y 82 :: lget Y 83 :: lget Y 84 :: lget Y 85 :: lget Y 86 :: lget Y 87 :: lget Y 88 :: lget Y 89 :: lget Y 90 :: lget Y 91 :: lget Y 92 :: lget Y 93 :: lget Y 94 :: lget Y 95 :: lget Y 96 :: lget Y 97 :: lget Y 98 :: lget Y 99 :: lget Y 100 :: lget Y 101 :: lget Y 102 :: lget Y 103 :: lget Y 104 :: lget Y 105 :: [])) ⟨[_,_,_,_,_,_,_,_,_,_,_,_,_,_,_,_,_,_,_,_,_,_,_,_,_,_,_,_,_,_,_,_,_,_,_,_,_,_,_,_,_,_,_,_,_,_,_,_,_,_,_,_,_,_,_,_,_,_,_,_,_,_,_,_,_,_,_,_,_,_,_,_,_,_,_,_,_,_,_,_,_,_,_,_,_,_,_,_,_,_,_,_,_,_,_,_,_,_,_,_,_,_,_,_,_,_], rfl⟩ ?_
 rintro T ⟨Y, rfl⟩
 have hp1 := b26.p1
 repeat (first | apply qN | refine qM rfl rfl ?_ | apply qR | apply qS)
 refine wops_split 11 ?_
 refine WOps.mono (K := fun T' H' => H6 = H' ∧ ∃ (Y : List AV), T' = (lget Y 0 :: .v yv :: .ptr H.next 0 :: lget Y 1 :: lget Y 2 :: .ptr bm 0 :: iv (mE m) :: lget Y 3 :: lget Y 4 :: lget Y 5 :: lget Y 6 :: lget Y 7 :: lget Y 8 :: lget Y 9 :: lget Y 10 :: lget Y 11 :: lget Y 12 :: lget Y 13 :: lget Y 14 :: lget Y 15 :: lget Y 16 :: lget Y 17 :: lget Y 18 :: lget Y 19 :: lget Y 20 :: lget Y 21 :: lget Y 22 :: lget Y 23 :: lget Y 24 :: lget Y 25 :: lget Y 26 :: lget Y 27 :: lget Y 28 :: lget Y 29 :: lget Y 30 :: lget Y 31 :: lget Y 32 :: .v (.bool (decide (mE m ≠ 0 ∨ m.g ≤ 3 ∨ 4 < m.g))) :: lget Y 33 :: lget Y 34 :: lget Y 35 :: lget Y 36 :: lget Y 37 :: lget Y 38 :: lget Y 39 :: lget Y 40 :: lget Y 41 :: lget Y 42 :: lget Y 43 :: lget Y 44 :: lget Y 45 :: lget Y 46 :: lget Y 47 :: lget Y 48 :: lget Y 49 :: lget Y 50 :: lget Y 51 :: lget Y 52 :: lget Y 53 :: lget Y 54 :: lget Y 55 :: lget Y 56 :: lget Y 57 :: lget Y 58 :: lget Y 59 :: lget Y 60 :: lget Y 61 :: lget Y 62 :: lget Y 63 :: lget Y 64 :: lget Y 65 :: lget Y 66 :: lget Y 67 :: lget Y 68 :: lget Y 69 :: lget Y 70 :: lget Y 71 :: lget Y 72 :: lget Y 73 :: lget Y 74 :: lget Y 75 :: lget Y 76 :: lget Y 77 :: lget Y 78 :: lget Y 79 :: lget Y 80 :: lget Y 81 :: lget Y 82 :: lget Y 83 :: lget Y 84 :: lget Y 85 :: lget Y 86 :: lget Y 87 :: lget Y 88 :: lget Y 89 :: lget Y 90 :: lget Y 91 :: lget Y 92 :: lget Y 93 :: lget Y 94 :: lget Y 95 :: lget Y 96 :: lget Y 97 :: lget Y 98 :: lget Y 99 :: lget Y 100 :: lget Y 101 :: lget Y 102 :: lget Y 103 :: lget Y 104 :: [])) ?_ ?_
 · refine wops_cons (wop_cmp rfl rfl rfl rfl rfl (fun h => ?_) (fun h => ?_))
   · have h1 : mE m ≠ 0 := by simpa using h
     rw [decide_eq_true (show mE m ≠ 0 ∨ m.g ≤ 3 ∨ 4 < m.g from .inl h1)]
     repeat (first | apply qN | refine zq1 rfl rfl ?_ | refine qM rfl rfl ?_ | refine zq7 rfl rfl rfl ?_)
     exact ⟨rfl, [_,_,_,_,_,_,_,_,_,_,_,_,_,_,_,_,_,_,_,_,_,_,_,_,_,_,_,_,_,_,_,_,_,_,_,_,_,_,_,_,_,_,_,_,_,_,_,_,_,_,_,_,_,_,_,_,_,_,_,_,_,_,_,_,_,_,_,_,_,_,_,_,_,_,_,_,_,_,_,_,_,_,_,_,_,_,_,_,_,_,_,_,_,_,_,_,_,_,_,_,_,_,_,_,_], rfl⟩
   · have h1 : ¬ mE m ≠ 0 := by simpa using h
     clear h
     repeat (first | refine qM rfl rfl ?_ | refine zqa rfl rfl rfl ?_ | refine zq6 rfl rfl ‹_› ?_)
     refine wops_cons (wop_cmp rfl rfl rfl rfl rfl (fun h => ?_) (fun h => ?_))
     · have h2 : m.g ≤ 3 := of_decide_eq_true h
       rw [decide_eq_true (show mE m ≠ 0 ∨ m.g ≤ 3 ∨ 4 < m.g from .inr (.inl h2))]
       repeat (first | apply qN | refine zq1 rfl rfl ?_ | refine qM rfl rfl ?_ | refine zq7 rfl rfl rfl ?_)
       exact ⟨rfl, [_,_,_,_,_,_,_,_,_,_,_,_,_,_,_,_,_,_,_,_,_,_,_,_,_,_,_,_,_,_,_,_,_,_,_,_,_,_,_,_,_,_,_,_,_,_,_,_,_,_,_,_,_,_,_,_,_,_,_,_,_,_,_,_,_,_,_,_,_,_,_,_,_,_,_,_,_,_,_,_,_,_,_,_,_,_,_,_,_,_,_,_,_,_,_,_,_,_,_,_,_,_,_,_,_], rfl⟩
     · have h2 : ¬ m.g ≤ 3 := of_decide_eq_false h
       clear h
       repeat (first | refine qM rfl rfl ?_ | refine zqa rfl rfl rfl ?_ | refine zq6 rfl rfl ‹_› ?_ | refine zq7 rfl rfl rfl ?_)
       refine wops_cons (wop_bin (op := .gtr) (v := .bool (decide (4 < m.g))) rfl rfl rfl rfl rfl ?_)
       have e : (mE m ≠ 0 ∨ m.g ≤ 3 ∨ 4 < m.g) = (4 < m.g) := propext ⟨fun h => h.elim (fun h => absurd h h1) (fun h => h.elim (fun h => absurd h h2) id), fun h => .inr (.inr h)⟩
       simp only [e]
       repeat (first | apply qN | refine zq7 rfl rfl rfl ?_)
       exact ⟨rfl, [_,_,_,_,_,_,_,_,_,_,_,_,_,_,_,_,_,_,_,_,_,_,_,_,_,_,_,_,_,_,_,_,_,_,_,_,_,_,_,_,_,_,_,_,_,_,_,_,_,_,_,_,_,_,_,_,_,_,_,_,_,_,_,_,_,_,_,_,_,_,_,_,_,_,_,_,_,_,_,_,_,_,_,_,_,_,_,_,_,_,_,_,_,_,_,_,_,_,_,_,_,_,_,_,_], rfl⟩
 rintro T' H' ⟨rfl, Y, rfl⟩
 repeat (first | apply qN)
 refine Wp.mono (Q := fun x' T' M' H' => x' = .normal ∧ M' = [] ∧ Keeps H6 H' ∧ H'.next ≤ H.next + 506000000000 ∧ ∃ (Y : List AV), T' = (lget Y 0 :: .v yv :: .ptr H.next 0 :: lget Y 1 :: lget Y 2 :: .ptr bm 0 :: iv (mE m) :: lget Y 3 :: lget Y 4 :: lget Y 5 :: lget Y 6 :: lget Y 7 :: lget Y 8 :: lget Y 9 :: lget Y 10 :: lget Y 11 :: lget Y 12 :: lget Y 13 :: lget Y 14 :: lget Y 15 :: lget Y 16 :: lget Y 17 :: lget Y 18 :: lget Y 19 :: lget Y 20 :: lget Y 21 :: lget Y 22 :: lget Y 23 :: lget Y 24 :: lget Y 25 :: lget Y 26 :: lget Y 27 :: lget Y 28 :: lget Y 29 :: lget Y 30 :: lget Y 31 :: lget Y 32 :: lget Y 33 :: lget Y 34 :: lget Y 35 :: lget Y 36 :: lget Y 37 :: lget Y 38 :: lget Y 39 :: lget Y 40 :: lget Y 41 :: lget Y 42 :: lget Y 43 :: lget Y 44 :: lget Y 45 :: lget Y 46 :: lget Y 47 :: lget Y 48 :: lget Y 49 :: lget Y 50 :: lget Y 51 :: lget Y 52 :: lget Y 53 :: lget Y 54 :: lget Y 55 :: lget Y 56 :: lget Y 57 :: lget Y 58 :: lget Y 59 :: lget Y 60 :: lget Y 61 :: lget Y 62 :: lget Y 63 :: lget Y 64 :: lget Y 65 :: lget Y 66 :: lget Y 67 :: lget Y 68 :: lget Y 69 :: lget Y 70 :: lget Y 71 :: lget Y 72 :: lget Y 73 :: lget Y 74 :: lget Y 75 :: lget Y 76 :: lget Y 77 :: lget Y 78 :: lget Y 79 :: lget Y 80 :: lget Y 81 :: lget Y 82 :: lget Y 83 :: lget Y 84 :: lget Y 85 :: lget Y 86 :: lget Y 87 :: lget Y 88 :: lget Y 89 :: lget Y 90 :: lget Y 91 :: lget Y 92 :: lget Y 93 :: lget Y 94 :: lget Y 95 :: lget Y 96 :: lget Y 97 :: lget Y 98 :: lget Y 99 :: lget Y 100 :: lget Y 101 :: lget Y 102 :: lget Y 103 :: lget Y 104 :: lget Y 105 :: [])) ?_ ?_
 · refine wp_cond rfl (fun h => ?_) (fun h => ?_)
   rotate_left
   · repeat (first | apply qK)
     exact ⟨rfl, rfl, Keeps.refl _, by omega, [_,_,_,_,_,_,_,_,_,_,_,_,_,_,_,_,_,_,_,_,_,_,_,_,_,_,_,_,_,_,_,_,_,_,_,_,_,_,_,_,_,_,_,_,_,_,_,_,_,_,_,_,_,_,_,_,_,_,_,_,_,_,_,_,_,_,_,_,_,_,_,_,_,_,_,_,_,_,_,_,_,_,_,_,_,_,_,_,_,_,_,_,_,_,_,_,_,_,_,_,_,_,_,_,_,_], rfl⟩
   have hc : mE m ≠ 0 ∨ m.g ≤ 3 ∨ 4 < m.g := of_decide_eq_true h
   clear h
   by_cases hm0 : mE m = 0
   rotate_left
   · repeat (first | refine zqb rfl rfl rfl ‹_› ?_ | apply qR | apply qS)
     refine wops_cons (wop_callF rfl rfl rfl (fn := Tryz.f37) (by rfl) ?_)
     refine c37e hq H6 _ (.v xv) m (mE m) rfl (hx.keep ho k06) (ho.keep k06) (by omega) (firstNZ_bad' hm0) hm0 (by omega) _ fun H7 k7 n7 => ⟨k7.nx, ?_⟩
     have b27 := b26.keep (by omega) k7
     have hp1 := b27.p1
     refine WOps.cut (fun T => ∃ Y : List AV, T = (lget Y 0 :: .v yv :: .ptr H.next 0 :: lget Y 1 :: lget Y 2 :: .ptr bm 0 :: iv (mE m) :: lget Y 3 :: lget Y 4 :: lget Y 5 :: lget Y 6 :: lget Y 7 :: lget Y 8 :: lget Y 9 :: lget Y 10 :: lget Y 11 :: lget Y 12 :: lget Y 13 :: lget Y 14 :: lget Y 15 :: lget Y 16 :: lget Y 17 :: lget Y 18 :: lget Y 19 :: lget Y 20 :: lget Y 21 :: lget Y 22 :: lget Y 23 :: lget Y 24 :: lget Y 25 :: lget Y 26 :: lget Y 27 :: lget Y 28 :: lget Y 29 :: lget Y 30 :: lget Y 31 :: lget Y 32 :: lget Y 33 :: lget Y 34 :: lget Y 35 :: .tup [.v (.slice none 0 0), iv (mE m)] :: lget Y 36 :: lget Y 37 :: lget Y 38 :: lget Y 39 :: lget Y 40 :: lget Y 41 :: lget Y 42 :: lget Y 43 :: lget Y 44 :: lget Y 45 :: lget Y 46 :: lget Y 47 :: lget Y 48 :: lget Y 49 :: lget Y 50 :: lget Y 51 :: lget Y 52 :: lget Y 53 :: lget Y 54 :: lget Y 55 :: lget Y 56 :: lget Y 57 :: lget Y 58 :: lget Y 59 :: lget Y 60 :: lget Y 61 :: lget Y 62 :: lget Y 63 :: lget Y 64 :: lget Y 65 :: lget Y 66 :: lget Y 67 :: lget Y 68 :: lget Y 69 :: lget Y 70 :: lget Y 71 :: lget Y 72 :: lget Y 73 :: lget Y 74 :: lget Y 75 :: lget Y 76 :: lget Y 77 :: lget Y 78 :: lget Y 79 :: lget Y 80 :: lget Y 81 :: lget Y 82 :: lget Y 83 :: lget Y 84 :: lget Y 85 :: lget Y 86 :: lget Y 87 :: lget Y 88 :: lget Y 89 :: lget Y 90 :: lget Y 91 :: lget Y 92 :: lget Y 93 :: lget Y 94 :: lget Y 95 :: lget Y 96 :: lget Y 97 :: lget Y 98 :: lget Y 99 :: lget Y 100 :: lget Y 101 :: lget Y 102 :: lget Y 103 :: lget Y 104 :: [])) ⟨[_,_,_,_,_,_,_,_,_,_,_,_,_,_,_,_,_,_,_,_,_,_,_,_,_,_,_,_,_,_,_,_,_,_,_,_,_,_,_,_,_,_,_,_,_,_,_,_,_,_,_,_,_,_,_,_,_,_,_,_,_,_,_,_,_,_,_,_,_,_,_,_,_,_,_,_,_,_,_,_,_,_,_,_,_,_,_,_,_,_,_,_,_,_,_,_,_,_,_,_,_,_,_,_,_], rfl⟩ ?_
     rintro T ⟨Y, rfl⟩
     repeat (first | apply qN | refine qM rfl rfl ?_ | refine zqa rfl rfl rfl ?_ | refine zq6 rfl rfl ‹_› ?_ | refine zq9 rfl rfl rfl rfl ?_ | apply qR | apply qS)
     refine wops_cons (wop_bin (op := .gtr) (v := .bool (decide (4 < m.g))) rfl rfl rfl rfl rfl ?_)
     skip
     refine wops_cons (wop_callF rfl rfl rfl (fn := Tryz.f30) (by rfl) ?_)
     refine cWhen hq H7 _ 22 _ ⟨Nat.le_refl _, ?_⟩
     have r7 : H7.next < 2 ^ 39 := by omega
     refine wops_cons (o_build2 rfl rfl rfl rfl r7 ?_)
     generalize (if decide (4 < m.g) = true then (22 : Int) else 0) = w
     refine WOps.mem (fun H8 => Keeps H6 H8 ∧ H8.next = H7.next + 1 ∧ Sl H8 (.slc H7.next 0 2 2) (ivs [mE m, w])) ⟨k7.add _ r7, rfl, sl_cells r7 (get_add_eq r7) rfl fun j v h => h⟩ ?_
     rintro H8 ⟨k8, n8, hs8⟩
     refine wops_cons (wop_callF rfl rfl rfl (fn := Tryz.f29) (by rfl) ?_)
     refine cFirst hq H8 _ _ hs8 (by show 2 ≤ 1000; decide) _ ⟨Nat.le_refl _, ?_⟩
     clear hs8
     rw [firstNZ_bad' hm0]
     refine WOps.cut (fun T => ∃ Y : List AV, T = (lget Y 0 :: .v yv :: .ptr H.next 0 :: lget Y 1 :: lget Y 2 :: .ptr bm 0 :: iv (mE m) :: .v (.slice none 0 0) :: iv (mE m) :: lget Y 3 :: lget Y 4 :: lget Y 5 :: lget Y 6 :: lget Y 7 :: lget Y 8 :: lget Y 9 :: lget Y 10 :: lget Y 11 :: lget Y 12 :: lget Y 13 :: lget Y 14 :: lget Y 15 :: lget Y 16 :: lget Y 17 :: lget Y 18 :: lget Y 19 :: lget Y 20 :: lget Y 21 :: lget Y 22 :: lget Y 23 :: lget Y 24 :: lget Y 25 :: lget Y 26 :: lget Y 27 :: lget Y 28 :: lget Y 29 :: lget Y 30 :: lget Y 31 :: lget Y 32 :: lget Y 33 :: lget Y 34 :: lget Y 35 :: lget Y 36 :: lget Y 37 :: lget Y 38 :: lget Y 39 :: lget Y 40 :: lget Y 41 :: lget Y 42 :: iv (mE m) :: lget Y 43 :: lget Y 44 :: lget Y 45 :: lget Y 46 :: lget Y 47 :: lget Y 48 :: lget Y 49 :: lget Y 50 :: lget Y 51 :: lget Y 52 :: lget Y 53 :: lget Y 54 :: lget Y 55 :: lget Y 56 :: lget Y 57 :: lget Y 58 :: lget Y 59 :: lget Y 60 :: lget Y 61 :: lget Y 62 :: lget Y 63 :: lget Y 64 :: lget Y 65 :: lget Y 66 :: lget Y 67 :: lget Y 68 :: lget Y 69 :: lget Y 70 :: lget Y 71 :: lget Y 72 :: lget Y 73 :: lget Y 74 :: lget Y 75 :: lget Y 76 :: lget Y 77 :: lget Y 78 :: lget Y 79 :: lget Y 80 :: lget Y 81 :: lget Y 82 :: lget Y 83 :: lget Y 84 :: lget Y 85 :: lget Y 86 :: lget Y 87 :: lget Y 88 :: lget Y 89 :: lget Y 90 :: lget Y 91 :: lget Y 92 :: lget Y 93 :: lget Y 94 :: lget Y 95 :: lget Y 96 :: lget Y 97 :: lget Y 98 :: lget Y 99 :: lget Y 100 :: lget Y 101 :: lget Y 102 :: [])) ⟨[_,_,_,_,_,_,_,_,_,_,_,_,_,_,_,_,_,_,_,_,_,_,_,_,_,_,_,_,_,_,_,_,_,_,_,_,_,_,_,_,_,_,_,_,_,_,_,_,_,_,_,_,_,_,_,_,_,_,_,_,_,_,_,_,_,_,_,_,_,_,_,_,_,_,_,_,_,_,_,_,_,_,_,_,_,_,_,_,_,_,_,_,_,_,_,_,_,_,_,_,_,_,_], rfl⟩ ?_
     rintro T ⟨Y, rfl⟩
     repeat (first | apply qN | refine qM rfl rfl ?_ | apply qR | apply qS)
     refine wops_cons (wop_bin (op := .neq) (v := .bool true) rfl rfl rfl rfl (by simp [binI, hm0]) ?_)
     repeat (first | refine qM rfl rfl ?_)
     refine wops_cons (wop_callF rfl rfl rfl (fn := Tryz.f32) (by rfl) ?_)
     refine cList hq H8 (.v (.slice none 0 0)) (.v (.slice none 0 0)) [] [] (mE m) (mE m) ⟨rfl, .inl rfl⟩ ⟨rfl, .inl rfl⟩ (by decide) (by decide) _ ⟨Nat.le_refl _, ?_⟩
     rw [if_pos hm0, show (decide (([] : List Int) = []) && decide (mE m = mE m)) = true by simp]
     refine WOps.cut (fun T => ∃ Y : List AV, T = (lget Y 0 :: .v yv :: .ptr H.next 0 :: lget Y 1 :: lget Y 2 :: .ptr bm 0 :: iv (mE m) :: .v (.slice none 0 0) :: iv (mE m) :: iv (mE m) :: lget Y 3 :: lget Y 4 :: lget Y 5 :: lget Y 6 :: lget Y 7 :: lget Y 8 :: lget Y 9 :: lget Y 10 :: lget Y 11 :: lget Y 12 :: lget Y 13 :: lget Y 14 :: lget Y 15 :: lget Y 16 :: lget Y 17 :: lget Y 18 :: lget Y 19 :: lget Y 20 :: lget Y 21 :: lget Y 22 :: lget Y 23 :: lget Y 24 :: lget Y 25 :: lget Y 26 :: lget Y 27 :: lget Y 28 :: lget Y 29 :: lget Y 30 :: lget Y 31 :: lget Y 32 :: lget Y 33 :: lget Y 34 :: lget Y 35 :: lget Y 36 :: lget Y 37 :: lget Y 38 :: lget Y 39 :: lget Y 40 :: lget Y 41 :: lget Y 42 :: lget Y 43 :: lget Y 44 :: .v (.bool true) :: lget Y 45 :: lget Y 46 :: lget Y 47 :: .v (.bool true) :: lget Y 48 :: lget Y 49 :: lget Y 50 :: lget Y 51 :: lget Y 52 :: lget Y 53 :: lget Y 54 :: lget Y 55 :: lget Y 56 :: lget Y 57 :: lget Y 58 :: lget Y 59 :: lget Y 60 :: lget Y 61 :: lget Y 62 :: lget Y 63 :: lget Y 64 :: lget Y 65 :: lget Y 66 :: lget Y 67 :: lget Y 68 :: lget Y 69 :: lget Y 70 :: lget Y 71 :: lget Y 72 :: lget Y 73 :: lget Y 74 :: lget Y 75 :: lget Y 76 :: lget Y 77 :: lget Y 78 :: lget Y 79 :: lget Y 80 :: lget Y 81 :: lget Y 82 :: lget Y 83 :: lget Y 84 :: lget Y 85 :: lget Y 86 :: lget Y 87 :: lget Y 88 :: lget Y 89 :: lget Y 90 :: lget Y 91 :: lget Y 92 :: lget Y 93 :: lget Y 94 :: lget Y 95 :: lget Y 96 :: lget Y 97 :: lget Y 98 :: lget Y 99 :: lget Y 100 :: [])) ⟨[_,_,_,_,_,_,_,_,_,_,_,_,_,_,_,_,_,_,_,_,_,_,_,_,_,_,_,_,_,_,_,_,_,_,_,_,_,_,_,_,_,_,_,_,_,_,_,_,_,_,_,_,_,_,_,_,_,_,_,_,_,_,_,_,_,_,_,_,_,_,_,_,_,_,_,_,_,_,_,_,_,_,_,_,_,_,_,_,_,_,_,_,_,_,_,_,_,_,_,_,_], rfl⟩ ?_
     rintro T ⟨Y, rfl⟩
     repeat (first | refine qM rfl rfl ?_ | refine zq7 rfl rfl rfl ?_ | refine zq8 rfl rfl rfl ?_)
     refine wops_cons (wop_bin (op := .eql) (v := .bool false) rfl rfl rfl rfl (by simp [binI, hm0]) ?_)
     repeat (first | apply qN | refine zq1 rfl rfl ?_ | refine qM rfl rfl ?_ | refine zq7 rfl rfl rfl ?_ | refine qF rfl ?_ | apply qK)
     exact ⟨rfl, rfl, k8, by omega, [_,_,_,_,_,_,_,_,_,_,_,_,_,_,_,_,_,_,_,_,_,_,_,_,_,_,_,_,_,_,_,_,_,_,_,_,_,_,_,_,_,_,_,_,_,_,_,_,_,_,_,_,_,_,_,_,_,_,_,_,_,_,_,_,_,_,_,_,_,_,_,_,_,_,_,_,_,_,_,_,_,_,_,_,_,_,_,_,_,_,_,_,_,_,_,_,_,_,_,_,_,_,_,_,_,_], rfl⟩
   obtain ⟨n, hV⟩ := vld_nil (m := m) (by omega) hm0
   have hg := hV.hg
   have hn1 := hV.hn1
   have hn16 := hV.hn
   rw [hm0]
   by_cases hn3 : n ≤ 3
   · repeat (first | refine zqb rfl rfl rfl ‹_› ?_ | apply qR | apply qS)
     refine wops_cons (wop_callF rfl rfl rfl (fn := Tryz.f37) (by rfl) ?_)
     refine c37 hq H6 _ _ m n rfl (hx.keep ho k06) hV hn3 (by omega) _ fun H7 r k7 n7 hr7 => ⟨k7.nx, ?_⟩
     have h67 := k7.nx
     have b27 := b26.keep (by omega) k7
     have b47 := b46.keep (by omega) k7
     have hp1 := b27.p1
     rw [hg] at hp1
     have hev := mE_ring hg hV.hm0
     rw [fill_eq hev hV] at hr7
     generalize hF : refF m n (4 * n) [] = fl at hr7
     have L6 : True := trivial
     refine WOps.cut (fun T => ∃ Y : List AV, T = (lget Y 0 :: .v yv :: .ptr H.next 0 :: lget Y 1 :: lget Y 2 :: .ptr bm 0 :: iv 0 :: lget Y 3 :: lget Y 4 :: lget Y 5 :: lget Y 6 :: lget Y 7 :: lget Y 8 :: lget Y 9 :: lget Y 10 :: lget Y 11 :: lget Y 12 :: lget Y 13 :: lget Y 14 :: lget Y 15 :: lget Y 16 :: lget Y 17 :: lget Y 18 :: lget Y 19 :: lget Y 20 :: lget Y 21 :: lget Y 22 :: lget Y 23 :: lget Y 24 :: lget Y 25 :: lget Y 26 :: lget Y 27 :: lget Y 28 :: lget Y 29 :: lget Y 30 :: lget Y 31 :: lget Y 32 :: lget Y 33 :: lget Y 34 :: lget Y 35 :: .tup [r, iv 0] :: lget Y 36 :: lget Y 37 :: lget Y 38 :: lget Y 39 :: lget Y 40 :: lget Y 41 :: lget Y 42 :: lget Y 43 :: lget Y 44 :: lget Y 45 :: lget Y 46 :: lget Y 47 :: lget Y 48 :: lget Y 49 :: lget Y 50 :: lget Y 51 :: lget Y 52 :: lget Y 53 :: lget Y 54 :: lget Y 55 :: lget Y 56 :: lget Y 57 :: lget Y 58 :: lget Y 59 :: lget Y 60 :: lget Y 61 :: lget Y 62 :: lget Y 63 :: lget Y 64 :: lget Y 65 :: lget Y 66 :: lget Y 67 :: lget Y 68 :: lget Y 69 :: lget Y 70 :: lget Y 71 :: lget Y 72 :: lget Y 73 :: lget Y 74 :: lget Y 75 :: lget Y 76 :: lget Y 77 :: lget Y 78 :: lget Y 79 :: lget Y 80 :: lget Y 81 :: lget Y 82 :: lget Y 83 :: lget Y 84 :: lget Y 85 :: lget Y 86 :: lget Y 87 :: lget Y 88 :: lget Y 89 :: lget Y 90 :: lget Y 91 :: lget Y 92 :: lget Y 93 :: lget Y 94 :: lget Y 95 :: lget Y 96 :: lget Y 97 :: lget Y 98 :: lget Y 99 :: lget Y 100 :: lget Y 101 :: lget Y 102 :: lget Y 103 :: lget Y 104 :: [])) ⟨[_,_,_,_,_,_,_,_,_,_,_,_,_,_,_,_,_,_,_,_,_,_,_,_,_,_,_,_,_,_,_,_,_,_,_,_,_,_,_,_,_,_,_,_,_,_,_,_,_,_,_,_,_,_,_,_,_,_,_,_,_,_,_,_,_,_,_,_,_,_,_,_,_,_,_,_,_,_,_,_,_,_,_,_,_,_,_,_,_,_,_,_,_,_,_,_,_,_,_,_,_,_,_,_,_], rfl⟩ ?_
     rintro T ⟨Y, rfl⟩
     repeat (first | apply qN | refine qM rfl rfl ?_ | refine zqa rfl rfl rfl ?_ | refine zq6 rfl rfl ‹_› ?_ | refine zq9 rfl rfl rfl rfl ?_ | apply qR | apply qS)
     refine wops_cons (wop_bin (op := .gtr) (v := .bool false) rfl rfl rfl rfl (by show some (Value.bool (decide ((4 : Int) < (n : Int)))) = _; rw [decide_eq_false (by omega)]) ?_)
     skip
     refine wops_cons (wop_callF rfl rfl rfl (fn := Tryz.f30) (by rfl) ?_)
     refine cWhen hq H7 _ 22 _ ⟨Nat.le_refl _, ?_⟩
     rw [if_neg (by decide)]
     have r7 : H7.next < 2 ^ 39 := by omega
     refine wops_cons (o_build2 rfl rfl rfl rfl r7 ?_)
     refine WOps.mem (fun H8 => Keeps H7 H8 ∧ H8.next = H7.next + 1 ∧ Sl H8 (.slc H7.next 0 2 2) (ivs [0, 0])) ⟨(Keeps.refl H7).add _ r7, rfl, sl_cells r7 (get_add_eq r7) rfl fun j v h => h⟩ ?_
     rintro H8 ⟨k8, n8, hs8⟩
     refine wops_cons (wop_callF rfl rfl rfl (fn := Tryz.f29) (by rfl) ?_)
     refine cFirst hq H8 _ _ hs8 (by show 2 ≤ 1000; decide) _ ⟨Nat.le_refl _, ?_⟩
     clear hs8
     rw [show firstNZ [0, 0] = 0 from rfl]
     have k68 := k7.trans k8
     have k08 := k06.trans k68
     have b28 := b27.keep (by omega) k8
     have b48 := b47.keep (by omega) k8
     have hr8 := hr7.frame k8.nx fun b hb => k8.get b (hr7.old b hb)
     refine WOps.cut (fun T => ∃ Y : List AV, T = (lget Y 0 :: .v yv :: .ptr H.next 0 :: lget Y 1 :: lget Y 2 :: .ptr bm 0 :: iv 0 :: r :: iv 0 :: lget Y 3 :: lget Y 4 :: lget Y 5 :: lget Y 6 :: lget Y 7 :: lget Y 8 :: lget Y 9 :: lget Y 10 :: lget Y 11 :: lget Y 12 :: lget Y 13 :: lget Y 14 :: lget Y 15 :: lget Y 16 :: lget Y 17 :: lget Y 18 :: lget Y 19 :: lget Y 20 :: lget Y 21 :: lget Y 22 :: lget Y 23 :: lget Y 24 :: lget Y 25 :: lget Y 26 :: lget Y 27 :: lget Y 28 :: lget Y 29 :: lget Y 30 :: lget Y 31 :: lget Y 32 :: lget Y 33 :: lget Y 34 :: lget Y 35 :: lget Y 36 :: lget Y 37 :: lget Y 38 :: lget Y 39 :: lget Y 40 :: lget Y 41 :: lget Y 42 :: iv 0 :: lget Y 43 :: lget Y 44 :: lget Y 45 :: lget Y 46 :: lget Y 47 :: lget Y 48 :: lget Y 49 :: lget Y 50 :: lget Y 51 :: lget Y 52 :: lget Y 53 :: lget Y 54 :: lget Y 55 :: lget Y 56 :: lget Y 57 :: lget Y 58 :: lget Y 59 :: lget Y 60 :: lget Y 61 :: lget Y 62 :: lget Y 63 :: lget Y 64 :: lget Y 65 :: lget Y 66 :: lget Y 67 :: lget Y 68 :: lget Y 69 :: lget Y 70 :: lget Y 71 :: lget Y 72 :: lget Y 73 :: lget Y 74 :: lget Y 75 :: lget Y 76 :: lget Y 77 :: lget Y 78 :: lget Y 79 :: lget Y 80 :: lget Y 81 :: lget Y 82 :: lget Y 83 :: lget Y 84 :: lget Y 85 :: lget Y 86 :: lget Y 87 :: lget Y 88 :: lget Y 89 :: lget Y 90 :: lget Y 91 :: lget Y 92 :: lget Y 93 :: lget Y 94 :: lget Y 95 :: lget Y 96 :: lget Y 97 :: lget Y 98 :: lget Y 99 :: lget Y 100 :: lget Y 101 :: lget Y 102 :: [])) ⟨[_,_,_,_,_,_,_,_,_,_,_,_,_,_,_,_,_,_,_,_,_,_,_,_,_,_,_,_,_,_,_,_,_,_,_,_,_,_,_,_,_,_,_,_,_,_,_,_,_,_,_,_,_,_,_,_,_,_,_,_,_,_,_,_,_,_,_,_,_,_,_,_,_,_,_,_,_,_,_,_,_,_,_,_,_,_,_,_,_,_,_,_,_,_,_,_,_,_,_,_,_,_,_], rfl⟩ ?_
     rintro T ⟨Y, rfl⟩
     repeat (first | apply qN | refine qM rfl rfl ?_ | apply qR | apply qS)
     refine wops_cons (wop_bin (op := .neq) (v := .bool false) rfl rfl rfl rfl (by simp [binI]) ?_)
     repeat (first | refine zq1 rfl rfl ?_ | refine qM rfl rfl ?_ | refine zq7 rfl rfl rfl ?_)
     refine wops_cons (wop_bin (op := .eql) (v := .bool true) rfl rfl rfl rfl (by simp [binI]) ?_)
     repeat (first | refine qM rfl rfl ?_ | refine zqb rfl rfl rfl ‹_› ?_)
     refine wops_cons (wop_callF rfl rfl rfl (fn := Tryz.f38) (by rfl) ?_)
     have hc1 : cR (4 * n) ≤ 495616000000 := Nat.le_trans (cR_mono (show 4 * n ≤ 12 by omega)) (by decide)
     refine c38x hq m n hn3 (4 * n) H8 _ (.v xv) (.v (.slice none 0 0)) [] (4 * n) rfl (hx.keep ho k08) (ho.keep k08) (.inl ⟨rfl, rfl⟩) hV (never_nil m n) (by rw [lastI_nil]; omega) (Nat.lt_succ_self _) (by omega) _ fun H9 r9 k9 n9 hg9 hl9 => ⟨k9.nx, ?_⟩
     rw [hF] at hg9 hl9
     have hr9 := hr8.frame k9.nx fun b hb => k9.get b (hr8.old b hb)
     refine WOps.cut (fun T => ∃ Y : List AV, T = (lget Y 0 :: .v yv :: .ptr H.next 0 :: lget Y 1 :: lget Y 2 :: .ptr bm 0 :: iv 0 :: lget Y 3 :: lget Y 4 :: lget Y 5 :: lget Y 6 :: lget Y 7 :: lget Y 8 :: lget Y 9 :: lget Y 10 :: lget Y 11 :: lget Y 12 :: lget Y 13 :: lget Y 14 :: lget Y 15 :: lget Y 16 :: lget Y 17 :: lget Y 18 :: lget Y 19 :: lget Y 20 :: lget Y 21 :: lget Y 22 :: lget Y 23 :: lget Y 24 :: lget Y 25 :: lget Y 26 :: lget Y 27 :: lget Y 28 :: lget Y 29 :: lget Y 30 :: lget Y 31 :: lget Y 32 :: lget Y 33 :: lget Y 34 :: lget Y 35 :: lget Y 36 :: lget Y 37 :: lget Y 38 :: lget Y 39 :: lget Y 40 :: lget Y 41 :: lget Y 42 :: lget Y 43 :: lget Y 44 :: lget Y 45 :: lget Y 46 :: lget Y 47 :: lget Y 48 :: lget Y 49 :: lget Y 50 :: lget Y 51 :: lget Y 52 :: lget Y 53 :: lget Y 54 :: .v (.bool false) :: lget Y 55 :: lget Y 56 :: .v (.bool true) :: r :: iv 0 :: lget Y 57 :: r9 :: lget Y 58 :: lget Y 59 :: lget Y 60 :: lget Y 61 :: lget Y 62 :: lget Y 63 :: lget Y 64 :: lget Y 65 :: lget Y 66 :: lget Y 67 :: lget Y 68 :: lget Y 69 :: lget Y 70 :: lget Y 71 :: lget Y 72 :: lget Y 73 :: lget Y 74 :: lget Y 75 :: lget Y 76 :: lget Y 77 :: lget Y 78 :: lget Y 79 :: lget Y 80 :: lget Y 81 :: lget Y 82 :: lget Y 83 :: lget Y 84 :: lget Y 85 :: lget Y 86 :: lget Y 87 :: lget Y 88 :: lget Y 89 :: lget Y 90 :: lget Y 91 :: lget Y 92 :: lget Y 93 :: lget Y 94 :: lget Y 95 :: lget Y 96 :: lget Y 97 :: lget Y 98 :: lget Y 99 :: lget Y 100 :: [])) ⟨[_,_,_,_,_,_,_,_,_,_,_,_,_,_,_,_,_,_,_,_,_,_,_,_,_,_,_,_,_,_,_,_,_,_,_,_,_,_,_,_,_,_,_,_,_,_,_,_,_,_,_,_,_,_,_,_,_,_,_,_,_,_,_,_,_,_,_,_,_,_,_,_,_,_,_,_,_,_,_,_,_,_,_,_,_,_,_,_,_,_,_,_,_,_,_,_,_,_,_,_,_], rfl⟩ ?_
     rintro T ⟨Y, rfl⟩
     skip
     refine wops_cons (wop_callF rfl rfl rfl (fn := Tryz.f32) (by rfl) ?_)
     refine cList hq H9 r r9 fl fl 0 0 hr9.sl hg9.sl (by omega) (by omega) _ ⟨Nat.le_refl _, ?_⟩
     rw [if_neg (by simp), show (decide ((0 : Int) = 0) && decide (fl = fl)) = true by simp]
     repeat (first | apply qN | refine zq7 rfl rfl rfl ?_ | refine zq8 rfl rfl rfl ?_ | refine qF rfl ?_ | apply qK)
     exact ⟨rfl, rfl, k68.trans k9, by omega, [_,_,_,_,_,_,_,_,_,_,_,_,_,_,_,_,_,_,_,_,_,_,_,_,_,_,_,_,_,_,_,_,_,_,_,_,_,_,_,_,_,_,_,_,_,_,_,_,_,_,_,_,_,_,_,_,_,_,_,_,_,_,_,_,_,_,_,_,_,_,_,_,_,_,_,_,_,_,_,_,_,_,_,_,_,_,_,_,_,_,_,_,_,_,_,_,_,_,_,_,_,_,_,_,_,_], rfl⟩
   · have hg4 : (4 : Int) < (n : Int) := by rcases hc with h | h | h <;> omega
     repeat (first | refine zqb rfl rfl rfl ‹_› ?_ | apply qR | apply qS)
     refine wops_cons (wop_callF rfl rfl rfl (fn := Tryz.f37) (by rfl) ?_)
     refine c37e hq H6 _ (.v xv) m 22 rfl (hx.keep ho k06) (ho.keep k06) (by omega) (by rw [hm0, hg, decide_eq_false (by omega)]; rfl) (by decide) (by omega) _ fun H7 k7 n7 => ⟨k7.nx, ?_⟩
     have b27 := b26.keep (by omega) k7
     have hp1 := b27.p1
     rw [hg] at hp1
     refine WOps.cut (fun T => ∃ Y : List AV, T = (lget Y 0 :: .v yv :: .ptr H.next 0 :: lget Y 1 :: lget Y 2 :: .ptr bm 0 :: iv 0 :: lget Y 3 :: lget Y 4 :: lget Y 5 :: lget Y 6 :: lget Y 7 :: lget Y 8 :: lget Y 9 :: lget Y 10 :: lget Y 11 :: lget Y 12 :: lget Y 13 :: lget Y 14 :: lget Y 15 :: lget Y 16 :: lget Y 17 :: lget Y 18 :: lget Y 19 :: lget Y 20 :: lget Y 21 :: lget Y 22 :: lget Y 23 :: lget Y 24 :: lget Y 25 :: lget Y 26 :: lget Y 27 :: lget Y 28 :: lget Y 29 :: lget Y 30 :: lget Y 31 :: lget Y 32 :: lget Y 33 :: lget Y 34 :: lget Y 35 :: .tup [.v (.slice none 0 0), iv 22] :: lget Y 36 :: lget Y 37 :: lget Y 38 :: lget Y 39 :: lget Y 40 :: lget Y 41 :: lget Y 42 :: lget Y 43 :: lget Y 44 :: lget Y 45 :: lget Y 46 :: lget Y 47 :: lget Y 48 :: lget Y 49 :: lget Y 50 :: lget Y 51 :: lget Y 52 :: lget Y 53 :: lget Y 54 :: lget Y 55 :: lget Y 56 :: lget Y 57 :: lget Y 58 :: lget Y 59 :: lget Y 60 :: lget Y 61 :: lget Y 62 :: lget Y 63 :: lget Y 64 :: lget Y 65 :: lget Y 66 :: lget Y 67 :: lget Y 68 :: lget Y 69 :: lget Y 70 :: lget Y 71 :: lget Y 72 :: lget Y 73 :: lget Y 74 :: lget Y 75 :: lget Y 76 :: lget Y 77 :: lget Y 78 :: lget Y 79 :: lget Y 80 :: lget Y 81 :: lget Y 82 :: lget Y 83 :: lget Y 84 :: lget Y 85 :: lget Y 86 :: lget Y 87 :: lget Y 88 :: lget Y 89 :: lget Y 90 :: lget Y 91 :: lget Y 92 :: lget Y 93 :: lget Y 94 :: lget Y 95 :: lget Y 96 :: lget Y 97 :: lget Y 98 :: lget Y 99 :: lget Y 100 :: lget Y 101 :: lget Y 102 :: lget Y 103 :: lget Y 104 :: [])) ⟨[_,_,_,_,_,_,_,_,_,_,_,_,_,_,_,_,_,_,_,_,_,_,_,_,_,_,_,_,_,_,_,_,_,_,_,_,_,_,_,_,_,_,_,_,_,_,_,_,_,_,_,_,_,_,_,_,_,_,_,_,_,_,_,_,_,_,_,_,_,_,_,_,_,_,_,_,_,_,_,_,_,_,_,_,_,_,_,_,_,_,_,_,_,_,_,_,_,_,_,_,_,_,_,_,_], rfl⟩ ?_
     rintro T ⟨Y, rfl⟩
     repeat (first | apply qN | refine qM rfl rfl ?_ | refine zqa rfl rfl rfl ?_ | refine zq6 rfl rfl ‹_› ?_ | refine zq9 rfl rfl rfl rfl ?_ | apply qR | apply qS)
     refine wops_cons (wop_bin (op := .gtr) (v := .bool true) rfl rfl rfl rfl (by show some (Value.bool (decide ((4 : Int) < (n : Int)))) = _; rw [decide_eq_true hg4]) ?_)
     skip
     refine wops_cons (wop_callF rfl rfl rfl (fn := Tryz.f30) (by rfl) ?_)
     refine cWhen hq H7 _ 22 _ ⟨Nat.le_refl _, ?_⟩
     rw [if_pos rfl]
     have r7 : H7.next < 2 ^ 39 := by omega
     refine wops_cons (o_build2 rfl rfl rfl rfl r7 ?_)
     refine WOps.mem (fun H8 => Keeps H6 H8 ∧ H8.next = H7.next + 1 ∧ Sl H8 (.slc H7.next 0 2 2) (ivs [0, 22])) ⟨k7.add _ r7, rfl, sl_cells r7 (get_add_eq r7) rfl fun j v h => h⟩ ?_
     rintro H8 ⟨k8, n8, hs8⟩
     refine wops_cons (wop_callF rfl rfl rfl (fn := Tryz.f29) (by rfl) ?_)
     refine cFirst hq H8 _ _ hs8 (by show 2 ≤ 1000; decide) _ ⟨Nat.le_refl _, ?_⟩
     clear hs8
     rw [show firstNZ [0, 22] = 22 from rfl]
     refine WOps.cut (fun T => ∃ Y : List AV, T = (lget Y 0 :: .v yv :: .ptr H.next 0 :: lget Y 1 :: lget Y 2 :: .ptr bm 0 :: iv 0 :: .v (.slice none 0 0) :: iv 22 :: lget Y 3 :: lget Y 4 :: lget Y 5 :: lget Y 6 :: lget Y 7 :: lget Y 8 :: lget Y 9 :: lget Y 10 :: lget Y 11 :: lget Y 12 :: lget Y 13 :: lget Y 14 :: lget Y 15 :: lget Y 16 :: lget Y 17 :: lget Y 18 :: lget Y 19 :: lget Y 20 :: lget Y 21 :: lget Y 22 :: lget Y 23 :: lget Y 24 :: lget Y 25 :: lget Y 26 :: lget Y 27 :: lget Y 28 :: lget Y 29 :: lget Y 30 :: lget Y 31 :: lget Y 32 :: lget Y 33 :: lget Y 34 :: lget Y 35 :: lget Y 36 :: lget Y 37 :: lget Y 38 :: lget Y 39 :: lget Y 40 :: lget Y 41 :: lget Y 42 :: iv 22 :: lget Y 43 :: lget Y 44 :: lget Y 45 :: lget Y 46 :: lget Y 47 :: lget Y 48 :: lget Y 49 :: lget Y 50 :: lget Y 51 :: lget Y 52 :: lget Y 53 :: lget Y 54 :: lget Y 55 :: lget Y 56 :: lget Y 57 :: lget Y 58 :: lget Y 59 :: lget Y 60 :: lget Y 61 :: lget Y 62 :: lget Y 63 :: lget Y 64 :: lget Y 65 :: lget Y 66 :: lget Y 67 :: lget Y 68 :: lget Y 69 :: lget Y 70 :: lget Y 71 :: lget Y 72 :: lget Y 73 :: lget Y 74 :: lget Y 75 :: lget Y 76 :: lget Y 77 :: lget Y 78 :: lget Y 79 :: lget Y 80 :: lget Y 81 :: lget Y 82 :: lget Y 83 :: lget Y 84 :: lget Y 85 :: lget Y 86 :: lget Y 87 :: lget Y 88 :: lget Y 89 :: lget Y 90 :: lget Y 91 :: lget Y 92 :: lget Y 93 :: lget Y 94 :: lget Y 95 :: lget Y 96 :: lget Y 97 :: lget Y 98 :: lget Y 99 :: lget Y 100 :: lget Y 101 :: lget Y 102 :: [])) ⟨[_,_,_,_,_,_,_,_,_,_,_,_,_,_,_,_,_,_,_,_,_,_,_,_,_,_,_,_,_,_,_,_,_,_,_,_,_,_,_,_,_,_,_,_,_,_,_,_,_,_,_,_,_,_,_,_,_,_,_,_,_,_,_,_,_,_,_,_,_,_,_,_,_,_,_,_,_,_,_,_,_,_,_,_,_,_,_,_,_,_,_,_,_,_,_,_,_,_,_,_,_,_,_], rfl⟩ ?_
     rintro T ⟨Y, rfl⟩
     repeat (first | apply qN | refine qM rfl rfl ?_ | apply qR | apply qS)
     refine wops_cons (wop_bin (op := .neq) (v := .bool true) rfl rfl rfl rfl (by simp [binI]) ?_)
     repeat (first | refine qM rfl rfl ?_)
     refine wops_cons (wop_callF rfl rfl rfl (fn := Tryz.f32) (by rfl) ?_)
     refine cList hq H8 (.v (.slice none 0 0)) (.v (.slice none 0 0)) [] [] 22 22 ⟨rfl, .inl rfl⟩ ⟨rfl, .inl rfl⟩ (by decide) (by decide) _ ⟨Nat.le_refl _, ?_⟩
     rw [if_pos (by decide), show (decide (([] : List Int) = []) && decide ((22 : Int) = 22)) = true by simp]
     refine WOps.cut (fun T => ∃ Y : List AV, T = (lget Y 0 :: .v yv :: .ptr H.next 0 :: lget Y 1 :: lget Y 2 :: .ptr bm 0 :: iv 0 :: .v (.slice none 0 0) :: iv 22 :: iv 22 :: lget Y 3 :: lget Y 4 :: lget Y 5 :: lget Y 6 :: lget Y 7 :: lget Y 8 :: lget Y 9 :: lget Y 10 :: lget Y 11 :: lget Y 12 :: lget Y 13 :: lget Y 14 :: lget Y 15 :: lget Y 16 :: lget Y 17 :: lget Y 18 :: lget Y 19 :: lget Y 20 :: lget Y 21 :: lget Y 22 :: lget Y 23 :: lget Y 24 :: lget Y 25 :: lget Y 26 :: lget Y 27 :: lget Y 28 :: lget Y 29 :: lget Y 30 :: lget Y 31 :: lget Y 32 :: lget Y 33 :: lget Y 34 :: lget Y 35 :: lget Y 36 :: lget Y 37 :: lget Y 38 :: lget Y 39 :: lget Y 40 :: lget Y 41 :: lget Y 42 :: lget Y 43 :: lget Y 44 :: .v (.bool true) :: lget Y 45 :: lget Y 46 :: lget Y 47 :: .v (.bool true) :: lget Y 48 :: lget Y 49 :: lget Y 50 :: lget Y 51 :: lget Y 52 :: lget Y 53 :: lget Y 54 :: lget Y 55 :: lget Y 56 :: lget Y 57 :: lget Y 58 :: lget Y 59 :: lget Y 60 :: lget Y 61 :: lget Y 62 :: lget Y 63 :: lget Y 64 :: lget Y 65 :: lget Y 66 :: lget Y 67 :: lget Y 68 :: lget Y 69 :: lget Y 70 :: lget Y 71 :: lget Y 72 :: lget Y 73 :: lget Y 74 :: lget Y 75 :: lget Y 76 :: lget Y 77 :: lget Y 78 :: lget Y 79 :: lget Y 80 :: lget Y 81 :: lget Y 82 :: lget Y 83 :: lget Y 84 :: lget Y 85 :: lget Y 86 :: lget Y 87 :: lget Y 88 :: lget Y 89 :: lget Y 90 :: lget Y 91 :: lget Y 92 :: lget Y 93 :: lget Y 94 :: lget Y 95 :: lget Y 96 :: lget Y 97 :: lget Y 98 :: lget Y 99 :: lget Y 100 :: [])) ⟨[_,_,_,_,_,_,_,_,_,_,_,_,_,_,_,_,_,_,_,_,_,_,_,_,_,_,_,_,_,_,_,_,_,_,_,_,_,_,_,_,_,_,_,_,_,_,_,_,_,_,_,_,_,_,_,_,_,_,_,_,_,_,_,_,_,_,_,_,_,_,_,_,_,_,_,_,_,_,_,_,_,_,_,_,_,_,_,_,_,_,_,_,_,_,_,_,_,_,_,_,_], rfl⟩ ?_
     rintro T ⟨Y, rfl⟩
     repeat (first | refine qM rfl rfl ?_ | refine zq7 rfl rfl rfl ?_ | refine zq8 rfl rfl rfl ?_)
     refine wops_cons (wop_bin (op := .eql) (v := .bool false) rfl rfl rfl rfl (by simp [binI]) ?_)
     repeat (first | apply qN | refine zq1 rfl rfl ?_ | refine qM rfl rfl ?_ | refine zq7 rfl rfl rfl ?_ | refine qF rfl ?_ | apply qK)
     exact ⟨rfl, rfl, k8, by omega, [_,_,_,_,_,_,_,_,_,_,_,_,_,_,_,_,_,_,_,_,_,_,_,_,_,_,_,_,_,_,_,_,_,_,_,_,_,_,_,_,_,_,_,_,_,_,_,_,_,_,_,_,_,_,_,_,_,_,_,_,_,_,_,_,_,_,_,_,_,_,_,_,_,_,_,_,_,_,_,_,_,_,_,_,_,_,_,_,_,_,_,_,_,_,_,_,_,_,_,_,_,_,_,_,_,_], rfl⟩
 clear hp1
 rintro x' T' M' H7 ⟨rfl, rfl, k7, n7, Y, rfl⟩
 show Wp _ _ _ _ _ _ _ _
 have k07 := k06.trans k7
 have h67 := k7.nx
 have b27 := b26.keep (by omega) k7
 have b47 := b46.keep (by omega) k7
 have hky7 := hky.keep k07
 have hbm7 : bm < H7.next := by omega
 clear b26 b46 k06 k7 n6'
 repeat (first | refine qM rfl rfl ?_ | refine zqb rfl rfl rfl ‹_› ?_ | apply qR | apply qS)
 refine wops_cons (wop_callF rfl rfl rfl (fn := Tryz.f26) (by rfl) ?_)
 refine c26 hq H7 _ (.v xv) _ m l rfl (hx.keep ho k07) (ho.keep k07) (fun b hb => (hLx b hb).keep k07) hky7.sl (Old.v _) (fun b hb => by cases hb) (by omega) (by omega) (by omega) _ fun H8 k8 n8 => ⟨k8.nx, ?_⟩
 have k08 := k07.trans k8
 have h78 := k8.nx
 have b28 := b27.keep (by omega) k8
 have b48 := b47.keep (by omega) k8
 have hky8 := hky.keep k08
 have hsl8 := hky8.sl
 clear b27 b47 k07 k8 hky7
 refine WOps.cut (fun T => ∃ Y : List AV, T = (lget Y 0 :: .v yv :: .ptr H.next 0 :: lget Y 1 :: lget Y 2 :: .ptr bm 0 :: lget Y 3 :: lget Y 4 :: lget Y 5 :: lget Y 6 :: lget Y 7 :: lget Y 8 :: lget Y 9 :: lget Y 10 :: lget Y 11 :: lget Y 12 :: lget Y 13 :: lget Y 14 :: lget Y 15 :: lget Y 16 :: lget Y 17 :: lget Y 18 :: lget Y 19 :: lget Y 20 :: lget Y 21 :: lget Y 22 :: lget Y 23 :: lget Y 24 :: lget Y 25 :: lget Y 26 :: lget Y 27 :: lget Y 28 :: lget Y 29 :: lget Y 30 :: lget Y 31 :: lget Y 32 :: lget Y 33 :: lget Y 34 :: lget Y 35 :: lget Y 36 :: lget Y 37 :: lget Y 38 :: lget Y 39 :: lget Y 40 :: lget Y 41 :: lget Y 42 :: lget Y 43 :: lget Y 44 :: lget Y 45 :: lget Y 46 :: lget Y 47 :: lget Y 48 :: lget Y 49 :: lget Y 50 :: lget Y 51 :: lget Y 52 :: lget Y 53 :: lget Y 54 :: lget Y 55 :: lget Y 56 :: lget Y 57 :: lget Y 58 :: lget Y 59 :: lget Y 60 :: lget Y 61 :: lget Y 62 :: lget Y 63 :: lget Y 64 :: lget Y 65 :: lget Y 66 :: lget Y 67 :: lget Y 68 :: lget Y 69 :: iv (cE m l) :: lget Y 70 :: lget Y 71 :: lget Y 72 :: lget Y 73 :: lget Y 74 :: lget Y 75 :: lget Y 76 :: lget Y 77 :: lget Y 78 :: lget Y 79 :: lget Y 80 :: lget Y 81 :: lget Y 82 :: lget Y 83 :: lget Y 84 :: lget Y 85 :: lget Y 86 :: lget Y 87 :: lget Y 88 :: lget Y 89 :: lget Y 90 :: lget Y 91 :: lget Y 92 :: lget Y 93 :: lget Y 94 :: lget Y 95 :: lget Y 96 :: lget Y 97 :: lget Y 98 :: lget Y 99 :: lget Y 100 :: lget Y 101 :: lget Y 102 :: lget Y 103 :: lget Y 104 :: lget Y 105 :: [])) ⟨[_,_,_,_,_,_,_,_,_,_,_,_,_,_,_,_,_,_,_,_,_,_,_,_,_,_,_,_,_,_,_,_,_,_,_,_,_,_,_,_,_,_,_,_,_,_,_,_,_,_,_,_,_,_,_,_,_,_,_,_,_,_,_,_,_,_,_,_,_,_,_,_,_,_,_,_,_,_,_,_,_,_,_,_,_,_,_,_,_,_,_,_,_,_,_,_,_,_,_,_,_,_,_,_,_,_], rfl⟩ ?_
 rintro T ⟨Y, rfl⟩
 by_cases hbad : cE m l = 0
 rotate_left
 · repeat (first | apply qN | refine qM rfl rfl ?_ | apply qR | apply qS)
   refine wops_cons (wop_bin (op := .eql) (v := .bool false) rfl rfl rfl rfl (by simp [binI, hbad]) ?_)
   repeat (first | apply qN | refine zq1 rfl rfl ?_ | refine qM rfl rfl ?_ | refine zqb rfl rfl rfl ‹_› ?_ | refine zq7 rfl rfl rfl ?_ | refine qF rfl ?_ | apply qR | apply qS | apply qK)
   refine wops_cons (wop_callF rfl rfl rfl (fn := Tryz.f39) (by rfl) ?_)
   refine c39e hq H8 _ (.v xv) _ m l rfl (hx.keep ho k08) (ho.keep k08) hky8 (by omega) (by omega) hbad (by omega) _ fun H9 k9 n9 => ⟨k9.nx, ?_⟩
   refine WOps.cut (fun T => ∃ Y : List AV, T = (lget Y 0 :: .v yv :: .ptr H.next 0 :: lget Y 1 :: lget Y 2 :: .ptr bm 0 :: iv (cE m l) :: lget Y 3 :: lget Y 4 :: lget Y 5 :: lget Y 6 :: lget Y 7 :: lget Y 8 :: lget Y 9 :: lget Y 10 :: lget Y 11 :: lget Y 12 :: lget Y 13 :: lget Y 14 :: lget Y 15 :: lget Y 16 :: lget Y 17 :: lget Y 18 :: lget Y 19 :: lget Y 20 :: lget Y 21 :: lget Y 22 :: lget Y 23 :: lget Y 24 :: lget Y 25 :: lget Y 26 :: lget Y 27 :: lget Y 28 :: lget Y 29 :: lget Y 30 :: lget Y 31 :: lget Y 32 :: lget Y 33 :: lget Y 34 :: lget Y 35 :: lget Y 36 :: lget Y 37 :: lget Y 38 :: lget Y 39 :: lget Y 40 :: lget Y 41 :: lget Y 42 :: lget Y 43 :: lget Y 44 :: lget Y 45 :: lget Y 46 :: lget Y 47 :: lget Y 48 :: lget Y 49 :: lget Y 50 :: lget Y 51 :: lget Y 52 :: lget Y 53 :: lget Y 54 :: lget Y 55 :: lget Y 56 :: lget Y 57 :: lget Y 58 :: lget Y 59 :: lget Y 60 :: lget Y 61 :: lget Y 62 :: lget Y 63 :: lget Y 64 :: lget Y 65 :: lget Y 66 :: lget Y 67 :: lget Y 68 :: lget Y 69 :: lget Y 70 :: lget Y 71 :: lget Y 72 :: lget Y 73 :: lget Y 74 :: lget Y 75 :: lget Y 76 :: lget Y 77 :: lget Y 78 :: lget Y 79 :: .tup [.v (.slice none 0 0), iv (cE m l)] :: lget Y 80 :: lget Y 81 :: lget Y 82 :: lget Y 83 :: lget Y 84 :: lget Y 85 :: lget Y 86 :: lget Y 87 :: lget Y 88 :: lget Y 89 :: lget Y 90 :: lget Y 91 :: lget Y 92 :: lget Y 93 :: lget Y 94 :: lget Y 95 :: lget Y 96 :: lget Y 97 :: lget Y 98 :: lget Y 99 :: lget Y 100 :: lget Y 101 :: lget Y 102 :: lget Y 103 :: lget Y 104 :: [])) ⟨[_,_,_,_,_,_,_,_,_,_,_,_,_,_,_,_,_,_,_,_,_,_,_,_,_,_,_,_,_,_,_,_,_,_,_,_,_,_,_,_,_,_,_,_,_,_,_,_,_,_,_,_,_,_,_,_,_,_,_,_,_,_,_,_,_,_,_,_,_,_,_,_,_,_,_,_,_,_,_,_,_,_,_,_,_,_,_,_,_,_,_,_,_,_,_,_,_,_,_,_,_,_,_,_,_], rfl⟩ ?_
   rintro T ⟨Y, rfl⟩
   repeat (first | apply qN | refine qM rfl rfl ?_ | refine zq9 rfl rfl rfl rfl ?_ | apply qR | apply qS)
   refine wops_cons (wop_bin (op := .eql) (v := .bool false) rfl rfl rfl rfl (by simp [binI, hbad]) ?_)
   repeat (first | apply qN | refine qM rfl rfl ?_ | refine qF rfl ?_ | apply qR | apply qS | apply qK)
   refine wops_cons (wop_bin (op := .neq) (v := .bool true) rfl rfl rfl rfl (by simp [binI, hbad]) ?_)
   repeat (first | apply qN | refine qM rfl rfl ?_ | refine qT rfl ?_ | apply qR | apply qS)
   refine wops_cons (wop_callF rfl rfl rfl (fn := Tryz.f32) (by rfl) ?_)
   refine cList hq H9 (.v (.slice none 0 0)) (.v (.slice none 0 0)) [] [] (cE m l) (cE m l) ⟨rfl, .inl rfl⟩ ⟨rfl, .inl rfl⟩ (by decide) (by decide) _ ⟨Nat.le_refl _, ?_⟩
   rw [if_pos hbad, show (decide (([] : List Int) = []) && decide (cE m l = cE m l)) = true by simp]
   repeat (first | apply qN | refine qM rfl rfl ?_)
   refine wp_ret ?_
   exact ⟨_, _, rfl, hk _⟩
 obtain ⟨n, hV⟩ := vld_of (m := m) (l := l) (by omega) hbad
 rw [hbad]
 have hn16 := hV.hn
 have hle := hV.hle
 have hev := mE_ring hV.hg hV.hm0
 have hval := valsL_le hV.fr.perd_mem
 repeat (first | apply qN | refine qM rfl rfl ?_ | apply qR | apply qS)
 refine wops_cons (wop_bin (op := .eql) (v := .bool true) rfl rfl rfl rfl (by simp [binI]) ?_)
 repeat (first | refine qM rfl rfl ?_ | refine zq5 rfl rfl rfl rfl rfl ‹_› ?_)
 refine wops_cons (wop_bin (op := .gtr) (v := .bool (decide ((10 : Int) < (l.length : Int)))) rfl rfl rfl rfl rfl ?_)
 by_cases hl10 : (10 : Int) < (l.length : Int)
 · rw [decide_eq_true hl10]
   repeat (first | apply qN | refine qM rfl rfl ?_ | refine zq7 rfl rfl rfl ?_ | refine qT rfl ?_ | apply qR | apply qS)
   refine wp_ret ?_
   exact ⟨_, _, rfl, hk _⟩
 rw [decide_eq_false hl10]
 have hl20 : l.length ≤ 20 := by omega
 repeat (first | apply qN | refine qM rfl rfl ?_ | refine zqb rfl rfl rfl ‹_› ?_ | refine zq7 rfl rfl rfl ?_ | refine qF rfl ?_ | apply qR | apply qS | apply qK)
 refine wops_cons (wop_callF rfl rfl rfl (fn := Tryz.f39) (by rfl) ?_)
 by_cases hnev : never m l n
 · refine cFreeV hq H8 _ (.v xv) _ m l n rfl (hx.keep ho k08) (ho.keep k08) hky8.sl hcap hV (by omega) hnev (by omega) _ fun H9 r fr k9 n9 hr9 hfr => ⟨k9.nx, ?_⟩
   have k09 := k08.trans k9
   have b49 := b48.keep (by omega) k9
   have hky9 := hky.keep k09
   refine WOps.cut (fun T => ∃ Y : List AV, T = (lget Y 0 :: .v yv :: .ptr H.next 0 :: lget Y 1 :: lget Y 2 :: .ptr bm 0 :: iv 0 :: lget Y 3 :: lget Y 4 :: lget Y 5 :: lget Y 6 :: lget Y 7 :: lget Y 8 :: lget Y 9 :: lget Y 10 :: lget Y 11 :: lget Y 12 :: lget Y 13 :: lget Y 14 :: lget Y 15 :: lget Y 16 :: lget Y 17 :: lget Y 18 :: lget Y 19 :: lget Y 20 :: lget Y 21 :: lget Y 22 :: lget Y 23 :: lget Y 24 :: lget Y 25 :: lget Y 26 :: lget Y 27 :: lget Y 28 :: lget Y 29 :: lget Y 30 :: lget Y 31 :: lget Y 32 :: lget Y 33 :: lget Y 34 :: lget Y 35 :: lget Y 36 :: lget Y 37 :: lget Y 38 :: lget Y 39 :: lget Y 40 :: lget Y 41 :: lget Y 42 :: lget Y 43 :: lget Y 44 :: lget Y 45 :: lget Y 46 :: lget Y 47 :: lget Y 48 :: lget Y 49 :: lget Y 50 :: lget Y 51 :: lget Y 52 :: lget Y 53 :: lget Y 54 :: lget Y 55 :: lget Y 56 :: lget Y 57 :: lget Y 58 :: lget Y 59 :: lget Y 60 :: lget Y 61 :: lget Y 62 :: lget Y 63 :: lget Y 64 :: lget Y 65 :: lget Y 66 :: lget Y 67 :: lget Y 68 :: lget Y 69 :: lget Y 70 :: lget Y 71 :: lget Y 72 :: lget Y 73 :: lget Y 74 :: lget Y 75 :: lget Y 76 :: lget Y 77 :: lget Y 78 :: lget Y 79 :: .tup [r, iv 0] :: lget Y 80 :: lget Y 81 :: lget Y 82 :: lget Y 83 :: lget Y 84 :: lget Y 85 :: lget Y 86 :: lget Y 87 :: lget Y 88 :: lget Y 89 :: lget Y 90 :: lget Y 91 :: lget Y 92 :: lget Y 93 :: lget Y 94 :: lget Y 95 :: lget Y 96 :: lget Y 97 :: lget Y 98 :: lget Y 99 :: lget Y 100 :: lget Y 101 :: lget Y 102 :: lget Y 103 :: lget Y 104 :: [])) ⟨[_,_,_,_,_,_,_,_,_,_,_,_,_,_,_,_,_,_,_,_,_,_,_,_,_,_,_,_,_,_,_,_,_,_,_,_,_,_,_,_,_,_,_,_,_,_,_,_,_,_,_,_,_,_,_,_,_,_,_,_,_,_,_,_,_,_,_,_,_,_,_,_,_,_,_,_,_,_,_,_,_,_,_,_,_,_,_,_,_,_,_,_,_,_,_,_,_,_,_,_,_,_,_,_,_], rfl⟩ ?_
   rintro T ⟨Y, rfl⟩
   repeat (first | apply qN | refine qM rfl rfl ?_ | refine zq9 rfl rfl rfl rfl ?_ | apply qR | apply qS)
   refine wops_cons (wop_bin (op := .eql) (v := .bool true) rfl rfl rfl rfl (by simp [binI]) ?_)
   repeat (first | apply qN | refine qM rfl rfl ?_ | refine zqb rfl rfl rfl ‹_› ?_ | refine qT rfl ?_ | apply qR | apply qS)
   refine wops_cons (wop_callF rfl rfl rfl (fn := Tryz.f36) (by rfl) ?_)
   refine cRefMeet hq H9 _ (.v xv) _ m l n _ rfl (hx.keep ho k09) (ho.keep k09) (by omega) hV.hg hV.hn1 hn16 hev hky9 hV.hl hl20 (Nat.lt_of_lt_of_le Nat.zero_lt_one hval.1) (by omega) hV.back (by omega) _ (fun H10 k' p' k10 n10 f2 f3 => (mtF_not f2 (hnev _)).elim) (fun H10 k10 n10 f2 => ⟨k10.nx, ?_⟩)
   have k010 := k09.trans k10
   have h910 := k10.nx
   have h89 := k9.nx
   have b410 := b49.keep (by omega) k10
   have hky10 := hky.keep k010
   have hr10 := hr9.frame k10.nx fun b hb => k10.get b (hr9.old b hb)
   refine WOps.cut (fun T => ∃ Y : List AV, T = (lget Y 0 :: .v yv :: .ptr H.next 0 :: lget Y 1 :: lget Y 2 :: .ptr bm 0 :: iv 0 :: lget Y 3 :: lget Y 4 :: lget Y 5 :: r :: iv 0 :: lget Y 6 :: lget Y 7 :: lget Y 8 :: lget Y 9 :: lget Y 10 :: lget Y 11 :: lget Y 12 :: lget Y 13 :: lget Y 14 :: lget Y 15 :: lget Y 16 :: lget Y 17 :: lget Y 18 :: lget Y 19 :: lget Y 20 :: lget Y 21 :: lget Y 22 :: lget Y 23 :: lget Y 24 :: lget Y 25 :: lget Y 26 :: lget Y 27 :: lget Y 28 :: lget Y 29 :: lget Y 30 :: lget Y 31 :: lget Y 32 :: lget Y 33 :: lget Y 34 :: lget Y 35 :: lget Y 36 :: lget Y 37 :: lget Y 38 :: lget Y 39 :: lget Y 40 :: lget Y 41 :: lget Y 42 :: lget Y 43 :: lget Y 44 :: lget Y 45 :: lget Y 46 :: lget Y 47 :: lget Y 48 :: lget Y 49 :: lget Y 50 :: lget Y 51 :: lget Y 52 :: lget Y 53 :: lget Y 54 :: lget Y 55 :: lget Y 56 :: lget Y 57 :: lget Y 58 :: lget Y 59 :: lget Y 60 :: lget Y 61 :: lget Y 62 :: lget Y 63 :: lget Y 64 :: lget Y 65 :: lget Y 66 :: lget Y 67 :: lget Y 68 :: lget Y 69 :: lget Y 70 :: lget Y 71 :: lget Y 72 :: lget Y 73 :: lget Y 74 :: lget Y 75 :: lget Y 76 :: lget Y 77 :: lget Y 78 :: lget Y 79 :: lget Y 80 :: lget Y 81 :: lget Y 82 :: lget Y 83 :: lget Y 84 :: lget Y 85 :: .tup [iv (-1), iv 0] :: lget Y 86 :: lget Y 87 :: lget Y 88 :: lget Y 89 :: lget Y 90 :: lget Y 91 :: lget Y 92 :: lget Y 93 :: lget Y 94 :: lget Y 95 :: lget Y 96 :: lget Y 97 :: lget Y 98 :: lget Y 99 :: lget Y 100 :: lget Y 101 :: lget Y 102 :: [])) ⟨[_,_,_,_,_,_,_,_,_,_,_,_,_,_,_,_,_,_,_,_,_,_,_,_,_,_,_,_,_,_,_,_,_,_,_,_,_,_,_,_,_,_,_,_,_,_,_,_,_,_,_,_,_,_,_,_,_,_,_,_,_,_,_,_,_,_,_,_,_,_,_,_,_,_,_,_,_,_,_,_,_,_,_,_,_,_,_,_,_,_,_,_,_,_,_,_,_,_,_,_,_,_,_], rfl⟩ ?_
   rintro T ⟨Y, rfl⟩
   repeat (first | apply qN | refine qM rfl rfl ?_ | refine zq9 rfl rfl rfl rfl ?_ | apply qR)
   refine wops_cons (wop_bin (op := .geq) (v := .bool false) rfl rfl rfl rfl (by simp [binI]) ?_)
   skip
   refine wops_cons (wop_callF rfl rfl rfl (fn := Tryz.f30) (by rfl) ?_)
   refine cWhen hq H10 _ 16 _ ⟨Nat.le_refl _, ?_⟩
   rw [if_neg (by decide)]
   repeat (first | apply qN | refine qM rfl rfl ?_ | apply qR | apply qS)
   refine wops_cons (wop_bin (op := .neq) (v := .bool false) rfl rfl rfl rfl (by simp [binI]) ?_)
   repeat (first | apply qN | refine qM rfl rfl ?_ | refine zqb rfl rfl rfl ‹_› ?_ | refine qF rfl ?_ | apply qR | apply qS | apply qK)
   refine wops_cons (wop_callF rfl rfl rfl (fn := Tryz.f40) (by rfl) ?_)
   refine cRefFree hq H10 _ (.v xv) _ m l n rfl (hx.keep ho k010) (ho.keep k010) (by omega) hky10 hV hl20 hnev (by omega) _ fun H11 c k11 n11 hc11 => ⟨k11.nx, ?_⟩
   have hr11 := hr10.frame k11.nx fun b hb => k11.get b (hr10.old b hb)
   have hlf : (freeL m n l (4 * n)).length ≤ 100000 := Nat.le_trans (freeL_len _ _ _ _) (by omega)
   subst hfr
   refine WOps.cut (fun T => ∃ Y : List AV, T = (lget Y 0 :: .v yv :: .ptr H.next 0 :: lget Y 1 :: lget Y 2 :: .ptr bm 0 :: lget Y 3 :: lget Y 4 :: lget Y 5 :: lget Y 6 :: lget Y 7 :: lget Y 8 :: lget Y 9 :: lget Y 10 :: lget Y 11 :: lget Y 12 :: lget Y 13 :: lget Y 14 :: lget Y 15 :: lget Y 16 :: lget Y 17 :: lget Y 18 :: lget Y 19 :: lget Y 20 :: lget Y 21 :: lget Y 22 :: lget Y 23 :: lget Y 24 :: lget Y 25 :: lget Y 26 :: lget Y 27 :: lget Y 28 :: lget Y 29 :: lget Y 30 :: lget Y 31 :: lget Y 32 :: lget Y 33 :: lget Y 34 :: lget Y 35 :: lget Y 36 :: lget Y 37 :: lget Y 38 :: lget Y 39 :: lget Y 40 :: lget Y 41 :: lget Y 42 :: lget Y 43 :: lget Y 44 :: lget Y 45 :: lget Y 46 :: lget Y 47 :: lget Y 48 :: lget Y 49 :: lget Y 50 :: lget Y 51 :: lget Y 52 :: lget Y 53 :: lget Y 54 :: lget Y 55 :: lget Y 56 :: lget Y 57 :: lget Y 58 :: lget Y 59 :: lget Y 60 :: lget Y 61 :: lget Y 62 :: lget Y 63 :: lget Y 64 :: lget Y 65 :: lget Y 66 :: lget Y 67 :: lget Y 68 :: lget Y 69 :: lget Y 70 :: lget Y 71 :: lget Y 72 :: lget Y 73 :: lget Y 74 :: lget Y 75 :: lget Y 76 :: lget Y 77 :: lget Y 78 :: lget Y 79 :: lget Y 80 :: lget Y 81 :: lget Y 82 :: lget Y 83 :: lget Y 84 :: lget Y 85 :: lget Y 86 :: lget Y 87 :: lget Y 88 :: lget Y 89 :: lget Y 90 :: lget Y 91 :: lget Y 92 :: lget Y 93 :: lget Y 94 :: lget Y 95 :: lget Y 96 :: lget Y 97 :: lget Y 98 :: lget Y 99 :: lget Y 100 :: r :: iv 0 :: lget Y 101 :: lget Y 102 :: c :: lget Y 103 :: [])) ⟨[_,_,_,_,_,_,_,_,_,_,_,_,_,_,_,_,_,_,_,_,_,_,_,_,_,_,_,_,_,_,_,_,_,_,_,_,_,_,_,_,_,_,_,_,_,_,_,_,_,_,_,_,_,_,_,_,_,_,_,_,_,_,_,_,_,_,_,_,_,_,_,_,_,_,_,_,_,_,_,_,_,_,_,_,_,_,_,_,_,_,_,_,_,_,_,_,_,_,_,_,_,_,_,_], rfl⟩ ?_
   rintro T ⟨Y, rfl⟩
   skip
   refine wops_cons (wop_callF rfl rfl rfl (fn := Tryz.f32) (by rfl) ?_)
   refine cList hq H11 r c _ _ 0 0 hr11.sl hc11.sl hlf hlf _ ⟨Nat.le_refl _, ?_⟩
   rw [if_neg (by simp), show (decide ((0 : Int) = 0) && decide (freeL m n l (4 * n) = freeL m n l (4 * n))) = true by simp]
   repeat (first | apply qN | refine qM rfl rfl ?_)
   refine wp_ret ?_
   exact ⟨_, _, rfl, hk _⟩
 · refine c39m hq H8 _ (.v xv) _ m l n rfl (hx.keep ho k08) (ho.keep k08) hky8 hV hnev (by omega) _ fun H9 k9 n9 => ⟨k9.nx, ?_⟩
   have k09 := k08.trans k9
   have b49 := b48.keep (by omega) k9
   have hky9 := hky.keep k09
   refine WOps.cut (fun T => ∃ Y : List AV, T = (lget Y 0 :: .v yv :: .ptr H.next 0 :: lget Y 1 :: lget Y 2 :: .ptr bm 0 :: iv 0 :: lget Y 3 :: lget Y 4 :: lget Y 5 :: lget Y 6 :: lget Y 7 :: lget Y 8 :: lget Y 9 :: lget Y 10 :: lget Y 11 :: lget Y 12 :: lget Y 13 :: lget Y 14 :: lget Y 15 :: lget Y 16 :: lget Y 17 :: lget Y 18 :: lget Y 19 :: lget Y 20 :: lget Y 21 :: lget Y 22 :: lget Y 23 :: lget Y 24 :: lget Y 25 :: lget Y 26 :: lget Y 27 :: lget Y 28 :: lget Y 29 :: lget Y 30 :: lget Y 31 :: lget Y 32 :: lget Y 33 :: lget Y 34 :: lget Y 35 :: lget Y 36 :: lget Y 37 :: lget Y 38 :: lget Y 39 :: lget Y 40 :: lget Y 41 :: lget Y 42 :: lget Y 43 :: lget Y 44 :: lget Y 45 :: lget Y 46 :: lget Y 47 :: lget Y 48 :: lget Y 49 :: lget Y 50 :: lget Y 51 :: lget Y 52 :: lget Y 53 :: lget Y 54 :: lget Y 55 :: lget Y 56 :: lget Y 57 :: lget Y 58 :: lget Y 59 :: lget Y 60 :: lget Y 61 :: lget Y 62 :: lget Y 63 :: lget Y 64 :: lget Y 65 :: lget Y 66 :: lget Y 67 :: lget Y 68 :: lget Y 69 :: lget Y 70 :: lget Y 71 :: lget Y 72 :: lget Y 73 :: lget Y 74 :: lget Y 75 :: lget Y 76 :: lget Y 77 :: lget Y 78 :: lget Y 79 :: .tup [.v (.slice none 0 0), iv 16] :: lget Y 80 :: lget Y 81 :: lget Y 82 :: lget Y 83 :: lget Y 84 :: lget Y 85 :: lget Y 86 :: lget Y 87 :: lget Y 88 :: lget Y 89 :: lget Y 90 :: lget Y 91 :: lget Y 92 :: lget Y 93 :: lget Y 94 :: lget Y 95 :: lget Y 96 :: lget Y 97 :: lget Y 98 :: lget Y 99 :: lget Y 100 :: lget Y 101 :: lget Y 102 :: lget Y 103 :: lget Y 104 :: [])) ⟨[_,_,_,_,_,_,_,_,_,_,_,_,_,_,_,_,_,_,_,_,_,_,_,_,_,_,_,_,_,_,_,_,_,_,_,_,_,_,_,_,_,_,_,_,_,_,_,_,_,_,_,_,_,_,_,_,_,_,_,_,_,_,_,_,_,_,_,_,_,_,_,_,_,_,_,_,_,_,_,_,_,_,_,_,_,_,_,_,_,_,_,_,_,_,_,_,_,_,_,_,_,_,_,_,_], rfl⟩ ?_
   rintro T ⟨Y, rfl⟩
   repeat (first | apply qN | refine qM rfl rfl ?_ | refine zq9 rfl rfl rfl rfl ?_ | apply qR | apply qS)
   refine wops_cons (wop_bin (op := .eql) (v := .bool true) rfl rfl rfl rfl (by simp [binI]) ?_)
   repeat (first | apply qN | refine qM rfl rfl ?_ | refine zqb rfl rfl rfl ‹_› ?_ | refine qT rfl ?_ | apply qR | apply qS)
   refine wops_cons (wop_callF rfl rfl rfl (fn := Tryz.f36) (by rfl) ?_)
   refine cRefMeet hq H9 _ (.v xv) _ m l n _ rfl (hx.keep ho k09) (ho.keep k09) (by omega) hV.hg hV.hn1 hn16 hev hky9 hV.hl hl20 (Nat.lt_of_lt_of_le Nat.zero_lt_one hval.1) (by omega) hV.back (by omega) _ (fun H10 k' p' k10 n10 f2 f3 => ⟨k10.nx, ?_⟩) (fun H10 k10 n10 f2 => (hnev f2).elim)
   refine WOps.cut (fun T => ∃ Y : List AV, T = (lget Y 0 :: .v yv :: .ptr H.next 0 :: lget Y 1 :: lget Y 2 :: .ptr bm 0 :: iv 0 :: lget Y 3 :: lget Y 4 :: lget Y 5 :: .v (.slice none 0 0) :: iv 16 :: lget Y 6 :: lget Y 7 :: lget Y 8 :: lget Y 9 :: lget Y 10 :: lget Y 11 :: lget Y 12 :: lget Y 13 :: lget Y 14 :: lget Y 15 :: lget Y 16 :: lget Y 17 :: lget Y 18 :: lget Y 19 :: lget Y 20 :: lget Y 21 :: lget Y 22 :: lget Y 23 :: lget Y 24 :: lget Y 25 :: lget Y 26 :: lget Y 27 :: lget Y 28 :: lget Y 29 :: lget Y 30 :: lget Y 31 :: lget Y 32 :: lget Y 33 :: lget Y 34 :: lget Y 35 :: lget Y 36 :: lget Y 37 :: lget Y 38 :: lget Y 39 :: lget Y 40 :: lget Y 41 :: lget Y 42 :: lget Y 43 :: lget Y 44 :: lget Y 45 :: lget Y 46 :: lget Y 47 :: lget Y 48 :: lget Y 49 :: lget Y 50 :: lget Y 51 :: lget Y 52 :: lget Y 53 :: lget Y 54 :: lget Y 55 :: lget Y 56 :: lget Y 57 :: lget Y 58 :: lget Y 59 :: lget Y 60 :: lget Y 61 :: lget Y 62 :: lget Y 63 :: lget Y 64 :: lget Y 65 :: lget Y 66 :: lget Y 67 :: lget Y 68 :: lget Y 69 :: lget Y 70 :: lget Y 71 :: lget Y 72 :: lget Y 73 :: lget Y 74 :: lget Y 75 :: lget Y 76 :: lget Y 77 :: lget Y 78 :: lget Y 79 :: lget Y 80 :: lget Y 81 :: lget Y 82 :: lget Y 83 :: lget Y 84 :: lget Y 85 :: .tup [iv (k' : Nat), iv (p' : Nat)] :: lget Y 86 :: lget Y 87 :: lget Y 88 :: lget Y 89 :: lget Y 90 :: lget Y 91 :: lget Y 92 :: lget Y 93 :: lget Y 94 :: lget Y 95 :: lget Y 96 :: lget Y 97 :: lget Y 98 :: lget Y 99 :: lget Y 100 :: lget Y 101 :: lget Y 102 :: [])) ⟨[_,_,_,_,_,_,_,_,_,_,_,_,_,_,_,_,_,_,_,_,_,_,_,_,_,_,_,_,_,_,_,_,_,_,_,_,_,_,_,_,_,_,_,_,_,_,_,_,_,_,_,_,_,_,_,_,_,_,_,_,_,_,_,_,_,_,_,_,_,_,_,_,_,_,_,_,_,_,_,_,_,_,_,_,_,_,_,_,_,_,_,_,_,_,_,_,_,_,_,_,_,_,_], rfl⟩ ?_
   rintro T ⟨Y, rfl⟩
   repeat (first | apply qN | refine qM rfl rfl ?_ | refine zq9 rfl rfl rfl rfl ?_ | apply qR)
   refine wops_cons (wop_bin (op := .geq) (v := .bool true) rfl rfl rfl rfl (by show some (Value.bool (decide ((0 : Int) ≤ (k' : Int)))) = _; rw [decide_eq_true (by omega)]) ?_)
   skip
   refine wops_cons (wop_callF rfl rfl rfl (fn := Tryz.f30) (by rfl) ?_)
   refine cWhen hq H10 _ 16 _ ⟨Nat.le_refl _, ?_⟩
   rw [if_pos rfl]
   repeat (first | apply qN | refine qM rfl rfl ?_ | apply qR | apply qS)
   refine wops_cons (wop_bin (op := .neq) (v := .bool true) rfl rfl rfl rfl (by simp [binI]) ?_)
   repeat (first | apply qN | refine qM rfl rfl ?_ | refine qT rfl ?_ | apply qR | apply qS)
   refine wops_cons (wop_callF rfl rfl rfl (fn := Tryz.f32) (by rfl) ?_)
   refine cList hq H10 (.v (.slice none 0 0)) (.v (.slice none 0 0)) [] [] 16 16 ⟨rfl, .inl rfl⟩ ⟨rfl, .inl rfl⟩ (by decide) (by decide) _ ⟨Nat.le_refl _, ?_⟩
   rw [if_pos (by decide), show (decide (([] : List Int) = []) && decide ((16 : Int) = 16)) = true by simp]
   repeat (first | apply qN | refine qM rfl rfl ?_)
   refine wp_ret ?_
   exact ⟨_, _, rfl, hk _⟩
end Go.Ev
