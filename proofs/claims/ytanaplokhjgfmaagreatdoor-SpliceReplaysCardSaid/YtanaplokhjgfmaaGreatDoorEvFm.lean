/- Part of an evaluator of calls that is proved sound, and of what it gives about this program. No condition of its own. -/
import Derived.Test.YtanaplokhjgfmaaGreatDoorEvFl
set_option linter.unusedVariables false
set_option linter.unusedSimpArgs false
set_option linter.unusedSectionVars false
set_option maxRecDepth 100000
set_option maxHeartbeats 8000000
namespace Go.Ev
open Go.Proofs
theorem rpS_len {r : Ru} : ∀ {ks : List Tk} {a b : List Int} {i : Nat}, (rpS r a b i ks).2.length ≤ ks.length
 | [], _, _, _ => Nat.le_refl _
 | k :: ks, a, b, i => by
   rw [rpS]
   split
   · exact Nat.le_succ_of_le rpS_len
   · exact Nat.succ_le_succ rpS_len
theorem fnz1 (w : Int) : firstNZ [w] = w := by
 by_cases h : w = 0
 · subst h; rfl
 · exact fnz_ne h
variable {O : CallF} (hq : Quiet O)
include hq
theorem c4l (H : AH) (hA : ∀ H', H'.gl = H.gl → O 10 [] H' = some (.v (.bool true), H')) (r : Ru) (rv yv : AV) (ks : List Tk) (hrv : rv.cells = r.cs) (hy : Ks H yv ks) (hy1 : yv.one = true) (hml : ks.length * 24 ≤ 2 ^ 47) (hr : H.next ≤ 1000) (K : AV → AH → Prop) (hk : ∀ H', K (.v (.bool true)) H') : Ca (ENV O) 4 [rv, yv] H K := by
 refine ca_intro (hq _ _ _ rfl) (fn := Tryz.f4) (by rfl) rfl ?_
 have r0 : H.next < 2 ^ 59 := by omega
 repeat (first | apply qR | apply qS)
 refine wops_cons (o_boxS (cs := r.cs) rfl rfl hrv r0 fun H1 n1 k1 b1 => ?_)
 have hy1' := hy.keep k1
 have x1 := k1.nx
 repeat (first | apply qN | refine qM rfl rfl ?_ | apply qS)
 refine wp_drawK rfl ?_
 refine k_load4 rfl rfl rfl rfl b1 (lkP (n := 0) b1 (by omega) (ru_beq r)) ?_
 refine k_move rfl rfl rfl ?_
 refine k_call rfl rfl rfl (fun b h => by cases h) (wop_callF rfl rfl rfl (fn := Tryz.f25) (by rfl) ?_)
 refine c25 hq H1 yv ks hy1'.sl hy1'.old hml (by omega) _ fun H2 r2 k2 n2 hG2 _ => ⟨k2.nx, k2, ?_⟩
 have x2 := k2.nx
 have rr2 : H2.next < 2 ^ 59 := by omega
 refine k_allocA (zs := [iv 0, iv 0, iv 0, iv 0, iv 0]) rfl rfl rfl (z := .agg #[.int .i64 0, .int .i64 0, .int .i64 0, .int .i64 0, .int .i64 0]) (by kernel_rfl) rfl rr2 ?_
 refine k_loud rfl rfl (o_storeA (n := 5) (vs := r.cs) rfl rfl (by kernel_rfl) rfl rfl rfl rfl (get_add_eq rr2) (Nat.le_refl _) ⟨(k2.add _ rr2).set _ (by omega) rr2, ?_⟩)
 refine WK.mem (fun H3 => Keeps H2 H3 ∧ H3.next = H2.next + 1 ∧ Bk H3 H2.next 29 r.cs) ⟨((Keeps.refl H2).add _ rr2).set _ (Nat.le_refl _) rr2, rfl, ⟨rr2, get_set_eq rr2⟩⟩ ?_
 rintro H3 ⟨k3, n3, b3⟩
 have k13 := k2.trans k3
 have k03 := k1.trans k13
 have b13 := b1.keep (by omega) k13
 have hy3 := hy.keep k03
 have hG3 := hG2.keep k3
 have gl3 : H3.gl = H.gl := k03.gl
 have x3 := k3.nx
 have n3' : H3.next ≤ 1010 + 3 * ks.length := by omega
 generalize hRB : H.next = RB at b13 n1 hr x1 ⊢
 generalize hXB : H2.next = XB at b3 n3 x3 ⊢
 have hRl : RB < H3.next := by omega
 have hXl : XB < H3.next := by omega
 clear k1 k2 k3 k13 k03 hRB hXB n1 n2 n3 x1 x2 x3 r0 rr2 hy hrv b1 hG2 hy1'
 show WK _ _ _ _ _ _ _
 repeat (first | refine k_nil ?_ | refine k_assign rfl rfl rfl ?_ | apply qR | apply qS)
 refine WOps.cut (fun T => ∃ Y : List AV, T = (lget Y 0 :: yv :: .ptr RB 0 :: lget Y 1 :: .v (.bool false) :: .ptr XB 0 :: r2 :: lget Y 2 :: lget Y 3 :: lget Y 4 :: lget Y 5 :: lget Y 6 :: lget Y 7 :: lget Y 8 :: lget Y 9 :: lget Y 10 :: lget Y 11 :: lget Y 12 :: lget Y 13 :: lget Y 14 :: lget Y 15 :: lget Y 16 :: lget Y 17 :: lget Y 18 :: lget Y 19 :: lget Y 20 :: lget Y 21 :: lget Y 22 :: lget Y 23 :: lget Y 24 :: lget Y 25 :: lget Y 26 :: lget Y 27 :: lget Y 28 :: lget Y 29 :: lget Y 30 :: lget Y 31 :: lget Y 32 :: lget Y 33 :: lget Y 34 :: lget Y 35 :: lget Y 36 :: lget Y 37 :: lget Y 38 :: lget Y 39 :: lget Y 40 :: lget Y 41 :: lget Y 42 :: lget Y 43 :: lget Y 44 :: lget Y 45 :: lget Y 46 :: lget Y 47 :: lget Y 48 :: lget Y 49 :: lget Y 50 :: lget Y 51 :: lget Y 52 :: lget Y 53 :: lget Y 54 :: lget Y 55 :: lget Y 56 :: lget Y 57 :: lget Y 58 :: lget Y 59 :: lget Y 60 :: lget Y 61 :: lget Y 62 :: lget Y 63 :: lget Y 64 :: lget Y 65 :: lget Y 66 :: lget Y 67 :: lget Y 68 :: lget Y 69 :: lget Y 70 :: lget Y 71 :: lget Y 72 :: lget Y 73 :: lget Y 74 :: lget Y 75 :: lget Y 76 :: lget Y 77 :: lget Y 78 :: lget Y 79 :: lget Y 80 :: [])) ⟨[_,_,_,_,_,_,_,_,_,_,_,_,_,_,_,_,_,_,_,_,_,_,_,_,_,_,_,_,_,_,_,_,_,_,_,_,_,_,_,_,_,_,_,_,_,_,_,_,_,_,_,_,_,_,_,_,_,_,_,_,_,_,_,_,_,_,_,_,_,_,_,_,_,_,_,_,_,_,_,_,_], rfl⟩ ?_
 rintro T ⟨Y, rfl⟩
 refine wops_cons (wop_callF rfl rfl rfl (fn := Tryz.f10) (by rfl) ?_)
 refine ca_oracle (hA _ gl3) ⟨Nat.le_refl _, ?_⟩
 refine WOps.mono (K := fun T' H' => H' = H3 ∧ ∃ (bb : Bool) (Y : List AV), (bb = false → ks.length ≤ 259) ∧ T' = (lget Y 0 :: yv :: .ptr RB 0 :: lget Y 1 :: .v (.bool false) :: .ptr XB 0 :: r2 :: lget Y 2 :: lget Y 3 :: lget Y 4 :: lget Y 5 :: lget Y 6 :: lget Y 7 :: lget Y 8 :: lget Y 9 :: lget Y 10 :: lget Y 11 :: lget Y 12 :: lget Y 13 :: lget Y 14 :: lget Y 15 :: lget Y 16 :: lget Y 17 :: lget Y 18 :: lget Y 19 :: lget Y 20 :: lget Y 21 :: lget Y 22 :: lget Y 23 :: lget Y 24 :: lget Y 25 :: lget Y 26 :: .v (.bool bb) :: lget Y 27 :: lget Y 28 :: lget Y 29 :: lget Y 30 :: lget Y 31 :: lget Y 32 :: lget Y 33 :: lget Y 34 :: lget Y 35 :: lget Y 36 :: lget Y 37 :: lget Y 38 :: lget Y 39 :: lget Y 40 :: lget Y 41 :: lget Y 42 :: lget Y 43 :: lget Y 44 :: lget Y 45 :: lget Y 46 :: lget Y 47 :: lget Y 48 :: lget Y 49 :: lget Y 50 :: lget Y 51 :: lget Y 52 :: lget Y 53 :: lget Y 54 :: lget Y 55 :: lget Y 56 :: lget Y 57 :: lget Y 58 :: lget Y 59 :: lget Y 60 :: lget Y 61 :: lget Y 62 :: lget Y 63 :: lget Y 64 :: lget Y 65 :: lget Y 66 :: lget Y 67 :: lget Y 68 :: lget Y 69 :: lget Y 70 :: lget Y 71 :: lget Y 72 :: lget Y 73 :: lget Y 74 :: lget Y 75 :: lget Y 76 :: lget Y 77 :: lget Y 78 :: lget Y 79 :: [])) ?_ ?_
 · repeat (first | refine qM rfl rfl ?_ | refine zq8 rfl rfl rfl ?_)
   refine wops_cons (o_lenR rfl rfl rfl rfl rfl hy3.sl ?_)
   rw [tks_length]
   by_cases h60 : (ks.length : Int) > 60
   · refine wops_cons (wop_bin (op := .gtr) (v := .bool true) rfl rfl rfl rfl (by simp [binI]; omega) ?_)
     repeat (first | refine qM rfl rfl ?_)
     refine wops_cons (o_lenR rfl rfl rfl rfl rfl hy3.sl ?_)
     rw [tks_length]
     by_cases h256 : (ks.length : Int) ≤ 256
     · refine wops_cons (wop_bin (op := .leq) (v := .bool true) rfl rfl rfl rfl (by simp [binI]; omega) ?_)
       repeat (first | apply qN | refine zq1 rfl rfl ?_ | refine qM rfl rfl ?_ | refine zq7 rfl rfl rfl ?_)
       exact ⟨rfl, true, [_,_,_,_,_,_,_,_,_,_,_,_,_,_,_,_,_,_,_,_,_,_,_,_,_,_,_,_,_,_,_,_,_,_,_,_,_,_,_,_,_,_,_,_,_,_,_,_,_,_,_,_,_,_,_,_,_,_,_,_,_,_,_,_,_,_,_,_,_,_,_,_,_,_,_,_,_,_,_,_], (fun e => by cases e), rfl⟩
     refine wops_cons (wop_bin (op := .leq) (v := .bool false) rfl rfl rfl rfl (by simp [binI]; omega) ?_)
     repeat (first | refine qM rfl rfl ?_ | refine zq7 rfl rfl rfl ?_)
     refine wops_cons (o_lenR rfl rfl rfl rfl rfl hy3.sl ?_)
     rw [tks_length]
     by_cases h259 : (ks.length : Int) > 259
     · refine wops_cons (wop_bin (op := .gtr) (v := .bool true) rfl rfl rfl rfl (by simp [binI]; omega) ?_)
       repeat (first | apply qN | refine zq7 rfl rfl rfl ?_)
       exact ⟨rfl, true, [_,_,_,_,_,_,_,_,_,_,_,_,_,_,_,_,_,_,_,_,_,_,_,_,_,_,_,_,_,_,_,_,_,_,_,_,_,_,_,_,_,_,_,_,_,_,_,_,_,_,_,_,_,_,_,_,_,_,_,_,_,_,_,_,_,_,_,_,_,_,_,_,_,_,_,_,_,_,_,_], (fun e => by cases e), rfl⟩
     refine wops_cons (wop_bin (op := .gtr) (v := .bool false) rfl rfl rfl rfl (by simp [binI]; omega) ?_)
     repeat (first | apply qN | refine zq7 rfl rfl rfl ?_)
     exact ⟨rfl, false, [_,_,_,_,_,_,_,_,_,_,_,_,_,_,_,_,_,_,_,_,_,_,_,_,_,_,_,_,_,_,_,_,_,_,_,_,_,_,_,_,_,_,_,_,_,_,_,_,_,_,_,_,_,_,_,_,_,_,_,_,_,_,_,_,_,_,_,_,_,_,_,_,_,_,_,_,_,_,_,_], (fun e => by omega), rfl⟩
   · refine wops_cons (wop_bin (op := .gtr) (v := .bool false) rfl rfl rfl rfl (by simp [binI]; omega) ?_)
     repeat (first | refine zq1 rfl rfl ?_ | refine qM rfl rfl ?_ | refine zq7 rfl rfl rfl ?_)
     refine wops_cons (o_lenR rfl rfl rfl rfl rfl hy3.sl ?_)
     rw [tks_length]
     refine wops_cons (wop_bin (op := .gtr) (v := .bool false) rfl rfl rfl rfl (by simp [binI]; omega) ?_)
     repeat (first | apply qN | refine zq7 rfl rfl rfl ?_)
     exact ⟨rfl, false, [_,_,_,_,_,_,_,_,_,_,_,_,_,_,_,_,_,_,_,_,_,_,_,_,_,_,_,_,_,_,_,_,_,_,_,_,_,_,_,_,_,_,_,_,_,_,_,_,_,_,_,_,_,_,_,_,_,_,_,_,_,_,_,_,_,_,_,_,_,_,_,_,_,_,_,_,_,_,_,_], (fun e => by omega), rfl⟩
 rintro T' H' ⟨rfl, bb, Y, hbb, rfl⟩
 cases bb with
 | true =>
   show Wp _ _ _ _ _ _ _ _
   repeat (first | refine qT rfl ?_ | apply qR | apply qS)
   refine wops_cons (wop_callF rfl rfl rfl (fn := Tryz.f10) (by rfl) ?_)
   refine ca_oracle (hA _ gl3) ⟨Nat.le_refl _, ?_⟩
   repeat (first | apply qN | refine qM rfl rfl ?_)
   refine wp_ret ?_
   exact ⟨_, _, rfl, hk _⟩
 | false =>
 have hl := hbb rfl
 have hks := hG3.ks
 show Wp _ _ _ _ _ _ _ _
 repeat (first | refine qM rfl rfl ?_ | refine zqb rfl rfl rfl ‹_› ?_ | refine qF rfl ?_ | apply qR | apply qS | apply qK)
 refine wops_cons (wop_callF rfl rfl rfl (fn := Tryz.f26) (by rfl) ?_)
 by_cases h0 : rpE r ks = 0
 rotate_left
 · refine c26 hq H' r _ yv ks rfl hy3 hy1 (by omega) (by omega) _ (fun _ H4 k4 n4 => ⟨k4.nx, ?_⟩) (fun h => absurd h h0)
   have x4 := k4.nx
   have r4 : H4.next < 2 ^ 59 := by omega
   repeat (first | refine qM rfl rfl ?_ | refine zq9 rfl rfl rfl rfl ?_)
   refine wops_cons (o_allocA (zs := [.v (.slice none 0 0), .v (.slice none 0 0)]) rfl rfl (z := .agg #[.slice none 0 0, .slice none 0 0]) (by kernel_rfl) rfl r4 ?_)
   refine wops_cons (o_storeA (n := 2) (vs := [.v (.slice none 0 0), .v (.slice none 0 0)]) rfl rfl (by kernel_rfl) rfl rfl rfl rfl (get_add_eq r4) (Nat.le_refl _) ?_)
   refine WOps.mem (fun H5 => Keeps H4 H5 ∧ H5.next = H4.next + 1 ∧ Bk H5 H4.next 26 [.v (.slice none 0 0), .v (.slice none 0 0)]) ⟨((Keeps.refl H4).add _ r4).set _ (Nat.le_refl _) r4, rfl, ⟨r4, get_set_eq r4⟩⟩ ?_
   rintro H5 ⟨k5, n5, b5⟩
   have k35 := k4.trans k5
   have b35 := b3.keep hXl k35
   have hks5 := hks.keep k35
   show WOps _ _ _ _ _ _
   repeat (first | apply qN | refine qM rfl rfl ?_ | refine zqb rfl rfl rfl ‹_› ?_ | apply qR | apply qS)
   refine WOps.cut (fun T => ∃ Y : List AV, T = (lget Y 0 :: yv :: .ptr RB 0 :: lget Y 1 :: .v (.bool false) :: .ptr XB 0 :: r2 :: .ptr H4.next 0 :: .v (.slice none 0 0) :: iv (rpE r ks) :: lget Y 2 :: lget Y 3 :: lget Y 4 :: lget Y 5 :: lget Y 6 :: lget Y 7 :: lget Y 8 :: lget Y 9 :: lget Y 10 :: lget Y 11 :: lget Y 12 :: lget Y 13 :: lget Y 14 :: lget Y 15 :: lget Y 16 :: lget Y 17 :: lget Y 18 :: lget Y 19 :: lget Y 20 :: lget Y 21 :: lget Y 22 :: lget Y 23 :: lget Y 24 :: lget Y 25 :: lget Y 26 :: lget Y 27 :: lget Y 28 :: lget Y 29 :: lget Y 30 :: lget Y 31 :: lget Y 32 :: .agg r.cs :: lget Y 33 :: lget Y 34 :: lget Y 35 :: lget Y 36 :: lget Y 37 :: lget Y 38 :: lget Y 39 :: lget Y 40 :: lget Y 41 :: lget Y 42 :: lget Y 43 :: lget Y 44 :: lget Y 45 :: lget Y 46 :: lget Y 47 :: lget Y 48 :: lget Y 49 :: lget Y 50 :: lget Y 51 :: lget Y 52 :: lget Y 53 :: lget Y 54 :: lget Y 55 :: lget Y 56 :: lget Y 57 :: lget Y 58 :: lget Y 59 :: lget Y 60 :: lget Y 61 :: lget Y 62 :: lget Y 63 :: lget Y 64 :: lget Y 65 :: lget Y 66 :: lget Y 67 :: lget Y 68 :: lget Y 69 :: lget Y 70 :: lget Y 71 :: lget Y 72 :: lget Y 73 :: lget Y 74 :: lget Y 75 :: lget Y 76 :: [])) ⟨[_,_,_,_,_,_,_,_,_,_,_,_,_,_,_,_,_,_,_,_,_,_,_,_,_,_,_,_,_,_,_,_,_,_,_,_,_,_,_,_,_,_,_,_,_,_,_,_,_,_,_,_,_,_,_,_,_,_,_,_,_,_,_,_,_,_,_,_,_,_,_,_,_,_,_,_,_], rfl⟩ ?_
   rintro T ⟨Y, rfl⟩
   refine wops_cons (wop_callF rfl rfl rfl (fn := Tryz.f13) (by rfl) ?_)
   refine c13 hq H5 r _ rfl (by omega) _ fun H6 k6 n6 => ⟨k6.nx, ?_⟩
   have x5 := k5.nx
   have x6 := k6.nx
   have b36 := b35.keep (by omega) k6
   by_cases hr0 : ruE r = 0
   · have he : rpE r ks = tksE r ks := by unfold rpE; rw [fnz_0 hr0, fnz1]
     rw [hr0]
     repeat (first | apply qN | refine qM rfl rfl ?_ | apply qR | apply qS)
     refine wops_cons (wop_bin (op := .eql) (v := .bool true) rfl rfl rfl rfl rfl ?_)
     repeat (first | apply qN | refine qM rfl rfl ?_ | refine zqb rfl rfl rfl ‹_› ?_ | refine qT rfl ?_ | apply qR)
     refine wops_cons (wop_callF rfl rfl rfl (fn := Tryz.f27) (by rfl) ?_)
     refine c27 hq H6 r _ r2 ks rfl (hks5.keep k6) hr0 (by omega) (by omega) _ fun H7 k7 n7 => ⟨k7.nx, ?_⟩
     have b57 := b5.keep (by omega) (k6.trans k7)
     have s0 : At H7 (.ptr H4.next 0) (.v (.slice none 0 0)) := b57.at rfl
     have s1 : At H7 (.ptr H4.next 1) (.v (.slice none 0 0)) := b57.at rfl
     rw [← he]
     generalize rpE r ks = w at h0 ⊢
     repeat (first | apply qN | refine qM rfl rfl ?_ | apply qR | apply qS)
     refine wops_cons (wop_bin (op := .neq) (v := .bool true) rfl rfl rfl rfl (by simp [binI, h0]) ?_)
     repeat (first | apply qN | refine zqa rfl rfl rfl ?_ | refine zq6 rfl rfl ‹_› ?_ | refine qT rfl ?_ | apply qR | apply qS)
     refine wops_cons (o_len (l := []) rfl rfl rfl rfl rfl ⟨rfl, .inl rfl⟩ ?_)
     repeat (first | refine zqa rfl rfl rfl ?_ | refine zq6 rfl rfl ‹_› ?_)
     refine wops_cons (o_len (l := []) rfl rfl rfl rfl rfl ⟨rfl, .inl rfl⟩ ?_)
     refine wops_cons (wop_bin (op := .add) (v := .int .i64 0) rfl rfl rfl rfl rfl ?_)
     repeat (first | refine qM rfl rfl ?_)
     refine wops_cons (o_lenR (rows := []) rfl rfl rfl rfl rfl ⟨rfl, .inl rfl⟩ ?_)
     refine wops_cons (wop_bin (op := .add) (v := .int .i64 0) rfl rfl rfl rfl rfl ?_)
     refine wops_cons (wop_bin (op := .eql) (v := .bool true) rfl rfl rfl rfl rfl ?_)
     repeat (first | refine qM rfl rfl ?_)
     refine wops_cons (wop_bin (op := .eql) (v := .bool true) rfl rfl rfl rfl (by simp [binI]) ?_)
     repeat (first | apply qN | refine qM rfl rfl ?_ | refine zq7 rfl rfl rfl ?_)
     refine wp_ret ?_
     exact ⟨_, _, rfl, hk _⟩
   · have he : rpE r ks = ruE r := by unfold rpE; exact fnz_ne hr0
     have b57 := b5.keep (by omega) k6
     have s0 : At H6 (.ptr H4.next 0) (.v (.slice none 0 0)) := b57.at rfl
     have s1 : At H6 (.ptr H4.next 1) (.v (.slice none 0 0)) := b57.at rfl
     rw [he]
     generalize ruE r = w at hr0 ⊢
     repeat (first | apply qN | refine qM rfl rfl ?_ | apply qR | apply qS)
     refine wops_cons (wop_bin (op := .eql) (v := .bool false) rfl rfl rfl rfl (by simp [binI, hr0]) ?_)
     repeat (first | apply qN | refine qM rfl rfl ?_ | refine qF rfl ?_ | apply qR | apply qS | apply qK)
     refine wops_cons (wop_bin (op := .neq) (v := .bool true) rfl rfl rfl rfl (by simp [binI, hr0]) ?_)
     repeat (first | apply qN | refine zqa rfl rfl rfl ?_ | refine zq6 rfl rfl ‹_› ?_ | refine qT rfl ?_ | apply qR | apply qS)
     refine wops_cons (o_len (l := []) rfl rfl rfl rfl rfl ⟨rfl, .inl rfl⟩ ?_)
     repeat (first | refine zqa rfl rfl rfl ?_ | refine zq6 rfl rfl ‹_› ?_)
     refine wops_cons (o_len (l := []) rfl rfl rfl rfl rfl ⟨rfl, .inl rfl⟩ ?_)
     refine wops_cons (wop_bin (op := .add) (v := .int .i64 0) rfl rfl rfl rfl rfl ?_)
     repeat (first | refine qM rfl rfl ?_)
     refine wops_cons (o_lenR (rows := []) rfl rfl rfl rfl rfl ⟨rfl, .inl rfl⟩ ?_)
     refine wops_cons (wop_bin (op := .add) (v := .int .i64 0) rfl rfl rfl rfl rfl ?_)
     refine wops_cons (wop_bin (op := .eql) (v := .bool true) rfl rfl rfl rfl rfl ?_)
     repeat (first | refine qM rfl rfl ?_)
     refine wops_cons (wop_bin (op := .eql) (v := .bool true) rfl rfl rfl rfl (by simp [binI]) ?_)
     repeat (first | apply qN | refine qM rfl rfl ?_ | refine zq7 rfl rfl rfl ?_)
     refine wp_ret ?_
     exact ⟨_, _, rfl, hk _⟩
 obtain ⟨hr0, ht0⟩ := first2n (show firstNZ [ruE r, tksE r ks] = 0 from h0)
 obtain ⟨hl256, htk⟩ := tksE_0 ht0
 refine c26 hq H' r _ yv ks rfl hy3 hy1 (by omega) (by omega) _ (fun h => absurd h0 h) fun _ H4 p q rr n hn k4 n4 hp hqq hp1 hq1 hG4 => ⟨k4.nx, ?_⟩
 have x4 := k4.nx
 have r4 : H4.next < 2 ^ 59 := by omega
 have hR := ruE_ok hr0
 have hsR := rpS_sta (i := 0) (sta_start hr0 hn) htk
 obtain ⟨hne1, hne2, hl8, hg8, _, _⟩ := tk_ne hsR
 have hrl : (rpS r (List.replicate n 0) (nums n) 0 ks).2.length ≤ ks.length := rpS_len
 repeat (first | refine qM rfl rfl ?_ | refine zq9 rfl rfl rfl rfl ?_)
 refine wops_cons (o_allocA (zs := [.v (.slice none 0 0), .v (.slice none 0 0)]) rfl rfl (z := .agg #[.slice none 0 0, .slice none 0 0]) (by kernel_rfl) rfl r4 ?_)
 refine wops_cons (o_storeA (n := 2) (vs := [p, q]) rfl rfl (by kernel_rfl) rfl rfl rfl (by simp [hp1, hq1]) (get_add_eq r4) (Nat.le_refl _) ?_)
 refine WOps.mem (fun H5 => Keeps H4 H5 ∧ H5.next = H4.next + 1 ∧ Bk H5 H4.next 26 [p, q]) ⟨((Keeps.refl H4).add _ r4).set _ (Nat.le_refl _) r4, rfl, ⟨r4, get_set_eq r4⟩⟩ ?_
 rintro H5 ⟨k5, n5, b5⟩
 have x5 := k5.nx
 have k35 := k4.trans k5
 have b35 := b3.keep hXl k35
 have hks5 := hks.keep k35
 have hp5 := hp.keep k5
 have hq5 := hqq.keep k5
 have hG5 := hG4.keep k5
 have hn5 : H5.next ≤ 60000 + 3 * ks.length := by omega
 have x35 := k35.nx
 have hX5 : XB < H5.next := by omega
 generalize hSB : H4.next = SB at b5 n5 ⊢
 have hSl : SB < H5.next := by omega
 clear k4 k5 k35 n4 n5 x4 r4 hSB hp hqq hG4
 show WOps _ _ _ _ _ _
 repeat (first | apply qN | refine qM rfl rfl ?_ | refine zqb rfl rfl rfl ‹_› ?_ | apply qR | apply qS)
 refine WOps.cut (fun T => ∃ Y : List AV, T = (lget Y 0 :: yv :: .ptr RB 0 :: lget Y 1 :: .v (.bool false) :: .ptr XB 0 :: r2 :: .ptr SB 0 :: rr :: iv 0 :: lget Y 2 :: lget Y 3 :: lget Y 4 :: lget Y 5 :: lget Y 6 :: lget Y 7 :: lget Y 8 :: lget Y 9 :: lget Y 10 :: lget Y 11 :: lget Y 12 :: lget Y 13 :: lget Y 14 :: lget Y 15 :: lget Y 16 :: lget Y 17 :: lget Y 18 :: lget Y 19 :: lget Y 20 :: lget Y 21 :: lget Y 22 :: lget Y 23 :: lget Y 24 :: lget Y 25 :: lget Y 26 :: lget Y 27 :: lget Y 28 :: lget Y 29 :: lget Y 30 :: lget Y 31 :: lget Y 32 :: .agg r.cs :: lget Y 33 :: lget Y 34 :: lget Y 35 :: lget Y 36 :: lget Y 37 :: lget Y 38 :: lget Y 39 :: lget Y 40 :: lget Y 41 :: lget Y 42 :: lget Y 43 :: lget Y 44 :: lget Y 45 :: lget Y 46 :: lget Y 47 :: lget Y 48 :: lget Y 49 :: lget Y 50 :: lget Y 51 :: lget Y 52 :: lget Y 53 :: lget Y 54 :: lget Y 55 :: lget Y 56 :: lget Y 57 :: lget Y 58 :: lget Y 59 :: lget Y 60 :: lget Y 61 :: lget Y 62 :: lget Y 63 :: lget Y 64 :: lget Y 65 :: lget Y 66 :: lget Y 67 :: lget Y 68 :: lget Y 69 :: lget Y 70 :: lget Y 71 :: lget Y 72 :: lget Y 73 :: lget Y 74 :: lget Y 75 :: lget Y 76 :: [])) ⟨[_,_,_,_,_,_,_,_,_,_,_,_,_,_,_,_,_,_,_,_,_,_,_,_,_,_,_,_,_,_,_,_,_,_,_,_,_,_,_,_,_,_,_,_,_,_,_,_,_,_,_,_,_,_,_,_,_,_,_,_,_,_,_,_,_,_,_,_,_,_,_,_,_,_,_,_,_], rfl⟩ ?_
 rintro T ⟨Y, rfl⟩
 refine wops_cons (wop_callF rfl rfl rfl (fn := Tryz.f13) (by rfl) ?_)
 refine c13 hq H5 r _ rfl (by omega) _ fun H6 k6 n6 => ⟨k6.nx, ?_⟩
 have x6 := k6.nx
 have b36 := b35.keep (by omega) k6
 rw [hr0]
 repeat (first | apply qN | refine qM rfl rfl ?_ | apply qR | apply qS)
 refine wops_cons (wop_bin (op := .eql) (v := .bool true) rfl rfl rfl rfl rfl ?_)
 repeat (first | apply qN | refine qM rfl rfl ?_ | refine zqb rfl rfl rfl ‹_› ?_ | refine qT rfl ?_ | apply qR)
 refine wops_cons (wop_callF rfl rfl rfl (fn := Tryz.f27) (by rfl) ?_)
 refine c27 hq H6 r _ r2 ks rfl (hks5.keep k6) hr0 (by omega) (by omega) _ fun H7 k7 n7 => ⟨k7.nx, ?_⟩
 have x7 := k7.nx
 rw [ht0]
 have k57 := k6.trans k7
 have b37 := b35.keep (by omega) k57
 have b57 := b5.keep hSl k57
 have hp7 := hp5.keep k57
 have hq7 := hq5.keep k57
 have hG7 := hG5.keep k57
 have hks7 := hks5.keep k57
 clear k6 k7 b36 b35 b5 hp5 hq5 hG5 hks5
 repeat (first | apply qN | refine qM rfl rfl ?_ | apply qR | apply qS)
 refine wops_cons (wop_bin (op := .neq) (v := .bool false) rfl rfl rfl rfl rfl ?_)
 repeat (first | apply qN | refine qM rfl rfl ?_ | refine zqb rfl rfl rfl ‹_› ?_ | refine qF rfl ?_ | apply qR | apply qS | apply qK)
 refine WOps.cut (fun T => ∃ Y : List AV, T = (lget Y 0 :: yv :: .ptr RB 0 :: lget Y 1 :: .v (.bool false) :: .ptr XB 0 :: r2 :: .ptr SB 0 :: rr :: iv 0 :: lget Y 2 :: lget Y 3 :: lget Y 4 :: lget Y 5 :: lget Y 6 :: lget Y 7 :: lget Y 8 :: lget Y 9 :: lget Y 10 :: lget Y 11 :: lget Y 12 :: lget Y 13 :: lget Y 14 :: lget Y 15 :: lget Y 16 :: lget Y 17 :: lget Y 18 :: lget Y 19 :: lget Y 20 :: lget Y 21 :: lget Y 22 :: lget Y 23 :: lget Y 24 :: lget Y 25 :: lget Y 26 :: lget Y 27 :: lget Y 28 :: lget Y 29 :: lget Y 30 :: lget Y 31 :: lget Y 32 :: lget Y 33 :: lget Y 34 :: lget Y 35 :: lget Y 36 :: lget Y 37 :: lget Y 38 :: lget Y 39 :: lget Y 40 :: lget Y 41 :: lget Y 42 :: lget Y 43 :: lget Y 44 :: lget Y 45 :: lget Y 46 :: lget Y 47 :: lget Y 48 :: lget Y 49 :: lget Y 50 :: lget Y 51 :: lget Y 52 :: lget Y 53 :: lget Y 54 :: lget Y 55 :: lget Y 56 :: lget Y 57 :: lget Y 58 :: .agg r.cs :: r2 :: lget Y 59 :: lget Y 60 :: lget Y 61 :: lget Y 62 :: lget Y 63 :: lget Y 64 :: lget Y 65 :: lget Y 66 :: lget Y 67 :: lget Y 68 :: lget Y 69 :: lget Y 70 :: lget Y 71 :: lget Y 72 :: lget Y 73 :: lget Y 74 :: lget Y 75 :: [])) ⟨[_,_,_,_,_,_,_,_,_,_,_,_,_,_,_,_,_,_,_,_,_,_,_,_,_,_,_,_,_,_,_,_,_,_,_,_,_,_,_,_,_,_,_,_,_,_,_,_,_,_,_,_,_,_,_,_,_,_,_,_,_,_,_,_,_,_,_,_,_,_,_,_,_,_,_,_], rfl⟩ ?_
 rintro T ⟨Y, rfl⟩
 refine wops_cons (wop_callF rfl rfl rfl (fn := Tryz.f28) (by rfl) ?_)
 refine c28 hq H7 r _ r2 ks n rfl hks7 hr0 hn htk (by omega) (by omega) _ fun H8 p2 q2 rr2 k8 n8 hp8 hq8 hG8 => ⟨k8.nx, ?_⟩
 have x8 := k8.nx
 have r8 : H8.next < 2 ^ 59 := by omega
 repeat (first | refine qM rfl rfl ?_ | refine zq9 rfl rfl rfl rfl ?_)
 refine wops_cons (o_allocA (zs := [.v (.slice none 0 0), .v (.slice none 0 0)]) rfl rfl (z := .agg #[.slice none 0 0, .slice none 0 0]) (by kernel_rfl) rfl r8 ?_)
 refine wops_cons (o_storeA (n := 2) (vs := [p2, q2]) rfl rfl (by kernel_rfl) rfl rfl rfl (by simp [hp8.sl.one, hq8.sl.one]) (get_add_eq r8) (Nat.le_refl _) ?_)
 refine WOps.mem (fun H9 => Keeps H8 H9 ∧ H9.next = H8.next + 1 ∧ Bk H9 H8.next 30 [p2, q2]) ⟨((Keeps.refl H8).add _ r8).set _ (Nat.le_refl _) r8, rfl, ⟨r8, get_set_eq r8⟩⟩ ?_
 rintro H9 ⟨k9, n9, b9⟩
 have x9 := k9.nx
 have k79 := k8.trans k9
 have b59 := b57.keep (by omega) k79
 have hp9 := hp7.keep k79
 have hq9 := hq7.keep k79
 have hG9 := hG7.keep k79
 have hpB := hp8.keep k9
 have hqB := hq8.keep k9
 have hGB := hG8.keep k9
 have s1 : beqs [p, q] [p, q] = true := by simp [beqs, hp9.sl.beq, hq9.sl.beq]
 have s2 : beqs [p2, q2] [p2, q2] = true := by simp [beqs, hpB.sl.beq, hqB.sl.beq]
 clear k8 k9 b57 hp7 hq7 hG7 hp8 hq8 hG8
 show WOps _ _ _ _ _ _
 repeat (first | apply qN | refine qM rfl rfl ?_ | apply qS)
 refine Wp.cut (fun T => ∃ Y : List AV, T = (lget Y 0 :: lget Y 1 :: lget Y 2 :: lget Y 3 :: lget Y 4 :: lget Y 5 :: lget Y 6 :: .ptr SB 0 :: rr :: iv 0 :: lget Y 7 :: .ptr H8.next 0 :: rr2 :: lget Y 8 :: lget Y 9 :: lget Y 10 :: lget Y 11 :: lget Y 12 :: lget Y 13 :: lget Y 14 :: lget Y 15 :: lget Y 16 :: lget Y 17 :: lget Y 18 :: lget Y 19 :: lget Y 20 :: lget Y 21 :: lget Y 22 :: lget Y 23 :: lget Y 24 :: lget Y 25 :: lget Y 26 :: lget Y 27 :: lget Y 28 :: lget Y 29 :: lget Y 30 :: lget Y 31 :: lget Y 32 :: lget Y 33 :: lget Y 34 :: lget Y 35 :: lget Y 36 :: lget Y 37 :: lget Y 38 :: lget Y 39 :: lget Y 40 :: lget Y 41 :: lget Y 42 :: lget Y 43 :: lget Y 44 :: lget Y 45 :: lget Y 46 :: lget Y 47 :: lget Y 48 :: lget Y 49 :: lget Y 50 :: lget Y 51 :: lget Y 52 :: lget Y 53 :: lget Y 54 :: lget Y 55 :: lget Y 56 :: lget Y 57 :: lget Y 58 :: lget Y 59 :: lget Y 60 :: lget Y 61 :: lget Y 62 :: lget Y 63 :: lget Y 64 :: lget Y 65 :: lget Y 66 :: lget Y 67 :: lget Y 68 :: lget Y 69 :: lget Y 70 :: lget Y 71 :: lget Y 72 :: lget Y 73 :: lget Y 74 :: lget Y 75 :: lget Y 76 :: lget Y 77 :: lget Y 78 :: lget Y 79 :: lget Y 80 :: [])) ⟨[_,_,_,_,_,_,_,_,_,_,_,_,_,_,_,_,_,_,_,_,_,_,_,_,_,_,_,_,_,_,_,_,_,_,_,_,_,_,_,_,_,_,_,_,_,_,_,_,_,_,_,_,_,_,_,_,_,_,_,_,_,_,_,_,_,_,_,_,_,_,_,_,_,_,_,_,_,_,_,_,_], rfl⟩ ?_
 rintro T ⟨Y, rfl⟩
 refine wp_drawK rfl ?_
 refine k_move rfl rfl rfl ?_
 refine k_bin (op := .eql) (v := .bool true) rfl rfl rfl rfl rfl rfl ?_
 refine k_move rfl rfl rfl ?_
 refine k_load4 rfl rfl rfl rfl b59 (lkP (n := 0) b59 (by omega) s1) ?_
 refine k_load4 rfl rfl rfl rfl b9 (lkP (n := 0) b9 (by omega) s2) ?_
 refine k_call rfl rfl rfl (fun b h => by cases h) (wop_callF rfl rfl rfl (fn := Tryz.f9) (by rfl) ?_)
 refine c9 hq H9 _ p q rfl hp1 hq1 (by omega) _ fun Ha ka na => ⟨ka.nx, ka, ?_⟩
 refine k_call rfl rfl rfl (fun b h => by cases h) (wop_callF rfl rfl rfl (fn := Tryz.f15) (by rfl) ?_)
 refine c15 hq Ha p q p2 q2 _ _ _ _ (hp9.keep ka) (hq9.keep ka) (hpB.keep ka) (hqB.keep ka) (by omega) (by omega) (by omega) (by omega) (by omega) _ fun Hb kb nb => ⟨kb.nx, ka.trans kb, ?_⟩
 have kab := ka.trans kb
 rw [decide_eq_true rfl, decide_eq_true rfl]
 refine k_pick rfl rfl rfl rfl ?_
 refine k_move rfl rfl rfl ?_
 refine k_move rfl rfl rfl ?_
 refine k_move rfl rfl rfl ?_
 refine k_call rfl rfl rfl (fun b h => by cases h) (wop_callF rfl rfl rfl (fn := Tryz.f30) (by rfl) ?_)
 have hGb := hG9.keep kab
 refine c30 hq Hb rr (rfs (rpS r (List.replicate n 0) (nums n) 0 ks).2) (fun q hq => ⟨rfs_len _ q hq, by obtain ⟨k, _, rfl⟩ := List.mem_map.1 hq; rfl⟩) (hGb.sl (rfs_len _)) hGb.old (by rw [rfs_length]; omega) (by omega) _ fun Hc r3 kc nc hGc _ => ⟨kc.nx, kab.trans kc, ?_⟩
 rw [rfs_length] at nc
 refine k_call rfl rfl rfl (fun b h => by cases h) (wop_callF rfl rfl rfl (fn := Tryz.f29) (by rfl) ?_)
 refine c29 hq Hc 138 138 r3 rr2 _ _ hGc.s2 ((hGB.keep kab).keep kc).s2 (by omega) (by omega) _ ⟨Nat.le_refl _, kab.trans kc, ?_⟩
 rw [decide_eq_true rfl]
 refine k_pick rfl rfl rfl rfl ?_
 refine k_assign rfl rfl rfl ?_
 repeat (first | refine k_nil ?_)
 refine wp_ret ?_
 exact ⟨_, _, rfl, hk _⟩
end Go.Ev
