/- Part of an evaluator of calls that is proved sound, and of what it gives about this program. No condition of its own. -/
import Derived.Test.YtcbmpnddhnkfnaaGreatDoorEvXn
set_option linter.unusedVariables false
set_option linter.unusedSimpArgs false
set_option linter.unusedSectionVars false
set_option maxRecDepth 1000000
set_option maxHeartbeats 16000000
namespace Go.Ev
open Go.Proofs
theorem freeL_split (m : Mc) (n : Nat) (l : List Int) (i : Nat) : ∀ d, ∃ u, freeL m n l (i + d) = freeL m n l i ++ u ∧ ∀ z ∈ u, (i : Int) ≤ z
 | 0 => ⟨[], by simp, fun z hz => by cases hz⟩
 | d + 1 => by
   obtain ⟨u, h1, h2⟩ := freeL_split m n l i d
   rw [← Nat.add_assoc, freeL_succ, h1, List.append_assoc]
   refine ⟨_, rfl, fun z hz => ?_⟩
   rcases List.mem_append.1 hz with hz | hz
   · exact h2 z hz
   · split at hz
     · rw [List.mem_singleton.1 hz]; omega
     · cases hz
theorem freeL_at {m : Mc} {n : Nat} {l : List Int} {i N : Nat} (hi : i < N) :
   ((i : Int) ∉ l ∧ never m (l ++ [(i : Int)]) n → (freeL m n l N)[(freeL m n l i).length]? = some (i : Int)) ∧
   (¬ ((i : Int) ∉ l ∧ never m (l ++ [(i : Int)]) n) → ∀ z, (freeL m n l N)[(freeL m n l i).length]? = some z → z ≠ (i : Int)) := by
 obtain ⟨u, h1, h2⟩ := freeL_split m n l (i + 1) (N - (i + 1))
 rw [show i + 1 + (N - (i + 1)) = N by omega, freeL_succ] at h1
 rw [h1]
 constructor
 · intro h
   rw [if_pos h, List.append_assoc, List.getElem?_append_right (Nat.le_refl _), Nat.sub_self]
   rfl
 · intro h z hz
   rw [if_neg h, List.append_nil, List.getElem?_append_right (Nat.le_refl _), Nat.sub_self] at hz
   have := h2 z (List.mem_of_getElem? hz)
   omega
theorem freeL_lt {m : Mc} {n : Nat} {l : List Int} {i N : Nat} (hi : i < N) (h : (i : Int) ∉ l ∧ never m (l ++ [(i : Int)]) n) : (freeL m n l i).length < (freeL m n l N).length := by
 have := (freeL_at hi).1 h
 exact (List.getElem?_eq_some_iff.1 this).1
theorem eq4 (a : Bool) : runPure Tryz.prog (Op.equal 4 (.bool a) (.bool a)) = some true := by cases a <;> kernel_rfl
theorem k_boolNe {O : CallF} {T : List AV} {H H0 : AH} {ops : Array Oper} {o : Oper} {i : Nat} {π : List Stp} {K : List AV → AH → Prop} {yt : TypeId} {x y : Operand} {a : Bool} (h1 : ops.toList[i]? = some o) (ho : o.op = .binOp .neq 4 x y yt) (hg : wantedA o ops T = true) (hx : av T x = .v (.bool a)) (hy : av T y = .v (.bool a)) (hk : WK (ENV O) ops H0 π (putA T o.dst (.v (.bool false))) H K) : WK (ENV O) ops H0 (.mob i :: π) T H K := by
 refine k_mob h1 hg (r := .v (.bool false)) ?_ (fun b hb => by rw [rdA_none (by unfold looksB; rw [ho])] at hb; cases hb) hk
 unfold mobEval
 rw [ho]
 simp only
 unfold plainVal
 have h2 : runPure Tryz.prog (execOp (fun x => ((av T x).plain).getD undef) o) = some (.value (.bool false)) := by
   obtain ⟨dst, op', type, pos, after, guard⟩ := o
   simp only at ho
   subst ho
   simp only [execOp, eqGuard, hx, hy, AV.plain, Option.getD_some, binOp, runPure_bind]
   simp [runPure_pure, runPure_bind, eq4]
 rw [show (ENV O).P = Tryz.prog from rfl, h2, ho]
 simp [Op.operands, hx, hy, AV.plain]
theorem bndG {a b c i : Nat} (h1 : a ≤ b + 900000) (h2 : b ≤ c + i * 1000000) : a ≤ c + (i + 1) * 1000000 := by omega
theorem bndH {a b i n : Nat} (h1 : i ≤ 4 * n) (h2 : n ≤ 3) (h3 : a ≤ b + 20000000000) : a + i * 1000000 ≤ b + 30000000000 := by omega
variable {O : CallF} (hq : Quiet O)
include hq
theorem c10l (H : AH) (hA : ∀ H', H'.gl = H.gl → O 14 [] H' = some (.v (.bool true), H')) (a0 : AV) (xv yv : Value) (m : Mc) (l : List Int) (ha : a0.cells = mc m (.v xv)) (hx : Sl H (.v xv) (ivs m.sw))
   (hy : Sl H (.v yv) (ivs l)) (hcap : CapOk (.v yv)) (hr : H.next ≤ 1000) (K : AV → AH → Prop) (hk : ∀ H', K (.v (.bool true)) H') : Ca (ENV O) 10 [a0, .v yv] H K := by
 refine ca_intro (hq _ _ _ rfl) (fn := Tryz.f10) (by rfl) rfl ?_
 have hoy : Old H (.v yv) := Old.v _
 have ho : Old H (.v xv) := Old.v _
 have hky : Ky H (.v yv) l := ⟨hy, hoy, hcap, fun b hb => by cases hb⟩
 have hkx : ∀ {H' : AH}, Keeps H H' → Sl H' (.v xv) (ivs m.sw) := fun k => hx.keep ho k
 repeat (first | apply qR | apply qS)
 refine wops_cons (o_boxM rfl rfl ha (by omega) fun H1 n1 k1 b1 => ?_)
 repeat (first | apply qN | refine qM rfl rfl ?_ | apply qR | apply qS)
 refine wops_cons (wop_callF rfl rfl rfl (fn := Tryz.f14) (by rfl) ?_)
 refine ca_oracle (hA _ k1.gl) ⟨Nat.le_refl _, ?_⟩
 repeat (first | refine qM rfl rfl ?_ | refine zqb rfl rfl rfl ‹_› ?_ | refine zq8 rfl rfl rfl ?_)
 refine wops_cons (wop_callF rfl rfl rfl (fn := Tryz.f67) (by rfl) ?_)
 refine c67 hq H1 _ (.v xv) _ m l 3 8 rfl (hkx k1) (Old.v _) (fun b hb => by cases hb) (hky.keep k1).sl (Old.v _) (fun b hb => by cases hb) (by omega) _ fun H2 k2 n2 => ⟨k2.nx, ?_⟩
 have k02 := k1.trans k2
 have b2 := b1.keep (by omega) k2
 have h12 := k2.nx
 cases hfit : fitsB m l 3 8 with
 | false =>
   repeat (first | apply qN | refine zq7 rfl rfl rfl ?_ | refine zq8 rfl rfl rfl ?_ | refine qT rfl ?_ | apply qR | apply qS)
   refine wops_cons (wop_callF rfl rfl rfl (fn := Tryz.f14) (by rfl) ?_)
   refine ca_oracle (hA _ k02.gl) ⟨Nat.le_refl _, ?_⟩
   repeat (first | apply qN | refine qM rfl rfl ?_)
   refine wp_ret ?_
   exact ⟨_, _, rfl, hk _⟩
 | true =>
 have hf2 : ((m.sw.length ≤ 19 ∧ l.length ≤ 67) ∧ m.g ≤ 3) ∧ (l.length : Int) ≤ 8 ∧ cE m l = 0 := by
   unfold fitsB at hfit
   simp only [Bool.and_eq_true, decide_eq_true_eq] at hfit
   omega
 obtain ⟨⟨⟨hsw, hl67⟩, hg3⟩, hl8, hcE⟩ := hf2
 obtain ⟨n, hV⟩ := vld_of (m := m) (l := l) (by omega) hcE
 have hg := hV.hg
 have hn1 := hV.hn1
 have hn3 : n ≤ 3 := by omega
 have hev := mE_ring hV.hg hV.hm0
 have hV0 : Vld m [] n := hV.sub (fun z hz => by cases hz) List.nodup_nil
 have hgd := fill_good hV0 hev
 have hfree := fill_free hV0 hev
 have hge := fun {l' : List Int} (h1 : Vld m l' n) (h2 : never m l' n) => fill_ge h1 h2
 repeat (first | apply qN | refine zqb rfl rfl rfl ‹_› ?_ | refine zq7 rfl rfl rfl ?_ | refine zq8 rfl rfl rfl ?_ | refine qF rfl ?_ | apply qR | apply qS | apply qK)
 refine wops_cons (wop_callF rfl rfl rfl (fn := Tryz.f37) (by rfl) ?_)
 refine c37 hq H2 _ _ m n rfl (hkx k02) hV0 hn3 (by omega) _ fun H3 r k3 n3 hr3 => ⟨k3.nx, ?_⟩
 generalize fillL m n = fl at hgd hfree hge hr3
 have hfl : fl.length ≤ 12 := by have := hgd.v.hle; omega
 have k03 := k02.trans k3
 have b3 := b2.keep (by omega) k3
 have h23 := k3.nx
 refine WOps.cut (fun T => ∃ Y : List AV, T = (lget Y 0 :: .v yv :: .ptr H.next 0 :: lget Y 1 :: lget Y 2 :: lget Y 3 :: lget Y 4 :: lget Y 5 :: lget Y 6 :: lget Y 7 :: lget Y 8 :: lget Y 9 :: lget Y 10 :: lget Y 11 :: lget Y 12 :: lget Y 13 :: lget Y 14 :: lget Y 15 :: lget Y 16 :: lget Y 17 :: lget Y 18 :: lget Y 19 :: lget Y 20 :: lget Y 21 :: lget Y 22 :: lget Y 23 :: lget Y 24 :: lget Y 25 :: lget Y 26 :: .tup [r, iv 0] :: lget Y 27 :: lget Y 28 :: lget Y 29 :: lget Y 30 :: lget Y 31 :: lget Y 32 :: lget Y 33 :: lget Y 34 :: lget Y 35 :: lget Y 36 :: lget Y 37 :: lget Y 38 :: lget Y 39 :: lget Y 40 :: lget Y 41 :: lget Y 42 :: lget Y 43 :: lget Y 44 :: lget Y 45 :: lget Y 46 :: lget Y 47 :: lget Y 48 :: lget Y 49 :: lget Y 50 :: lget Y 51 :: lget Y 52 :: lget Y 53 :: lget Y 54 :: lget Y 55 :: lget Y 56 :: lget Y 57 :: lget Y 58 :: lget Y 59 :: lget Y 60 :: lget Y 61 :: lget Y 62 :: lget Y 63 :: lget Y 64 :: lget Y 65 :: lget Y 66 :: lget Y 67 :: lget Y 68 :: lget Y 69 :: lget Y 70 :: lget Y 71 :: lget Y 72 :: lget Y 73 :: lget Y 74 :: lget Y 75 :: lget Y 76 :: lget Y 77 :: lget Y 78 :: lget Y 79 :: lget Y 80 :: lget Y 81 :: lget Y 82 :: lget Y 83 :: lget Y 84 :: lget Y 85 :: lget Y 86 :: lget Y 87 :: lget Y 88 :: lget Y 89 :: lget Y 90 :: lget Y 91 :: lget Y 92 :: lget Y 93 :: lget Y 94 :: lget Y 95 :: lget Y 96 :: lget Y 97 :: lget Y 98 :: lget Y 99 :: lget Y 100 :: lget Y 101 :: lget Y 102 :: lget Y 103 :: lget Y 104 :: lget Y 105 :: lget Y 106 :: lget Y 107 :: lget Y 108 :: lget Y 109 :: lget Y 110 :: lget Y 111 :: lget Y 112 :: lget Y 113 :: lget Y 114 :: lget Y 115 :: lget Y 116 :: lget Y 117 :: lget Y 118 :: lget Y 119 :: lget Y 120 :: lget Y 121 :: lget Y 122 :: lget Y 123 :: lget Y 124 :: lget Y 125 :: lget Y 126 :: lget Y 127 :: lget Y 128 :: lget Y 129 :: lget Y 130 :: lget Y 131 :: lget Y 132 :: lget Y 133 :: lget Y 134 :: lget Y 135 :: lget Y 136 :: lget Y 137 :: lget Y 138 :: lget Y 139 :: lget Y 140 :: lget Y 141 :: lget Y 142 :: lget Y 143 :: lget Y 144 :: lget Y 145 :: lget Y 146 :: lget Y 147 :: lget Y 148 :: lget Y 149 :: lget Y 150 :: lget Y 151 :: lget Y 152 :: lget Y 153 :: lget Y 154 :: lget Y 155 :: lget Y 156 :: lget Y 157 :: lget Y 158 :: lget Y 159 :: lget Y 160 :: lget Y 161 :: lget Y 162 :: lget Y 163 :: lget Y 164 :: lget Y 165 :: lget Y 166 :: lget Y 167 :: [])) ⟨[_,_,_,_,_,_,_,_,_,_,_,_,_,_,_,_,_,_,_,_,_,_,_,_,_,_,_,_,_,_,_,_,_,_,_,_,_,_,_,_,_,_,_,_,_,_,_,_,_,_,_,_,_,_,_,_,_,_,_,_,_,_,_,_,_,_,_,_,_,_,_,_,_,_,_,_,_,_,_,_,_,_,_,_,_,_,_,_,_,_,_,_,_,_,_,_,_,_,_,_,_,_,_,_,_,_,_,_,_,_,_,_,_,_,_,_,_,_,_,_,_,_,_,_,_,_,_,_,_,_,_,_,_,_,_,_,_,_,_,_,_,_,_,_,_,_,_,_,_,_,_,_,_,_,_,_,_,_,_,_,_,_,_,_,_,_,_,_], rfl⟩ ?_
 rintro T ⟨Y, rfl⟩
 repeat (first | apply qN | refine qM rfl rfl ?_ | refine zqb rfl rfl rfl ‹_› ?_ | refine zq9 rfl rfl rfl rfl ?_ | apply qR | apply qS)
 refine wops_cons (wop_callF rfl rfl rfl (fn := Tryz.f39) (by rfl) ?_)
 refine cFreeG hq H3 _ (.v xv) r m fl n rfl (hkx k03) (Old.v _) hr3 hgd.v (by omega) hgd.nv (by omega) _ fun H4 r4 fr4 k4 n4 hr4 hfr4 => ⟨k4.nx, ?_⟩
 rw [hfree] at hfr4
 subst hfr4
 have k04 := k03.trans k4
 have b4 := b3.keep (by omega) k4
 have h34 := k4.nx
 have hr34 := hr3.frame k4.nx fun b hb => k4.get b (hr3.old b hb)
 have hs4 : Sl H4 r4 (ivs []) := hr4.sl
 refine WOps.cut (fun T => ∃ Y : List AV, T = (lget Y 0 :: .v yv :: .ptr H.next 0 :: lget Y 1 :: lget Y 2 :: r :: iv 0 :: lget Y 3 :: lget Y 4 :: lget Y 5 :: lget Y 6 :: lget Y 7 :: lget Y 8 :: lget Y 9 :: lget Y 10 :: lget Y 11 :: lget Y 12 :: lget Y 13 :: lget Y 14 :: lget Y 15 :: lget Y 16 :: lget Y 17 :: lget Y 18 :: lget Y 19 :: lget Y 20 :: lget Y 21 :: lget Y 22 :: lget Y 23 :: lget Y 24 :: lget Y 25 :: lget Y 26 :: lget Y 27 :: lget Y 28 :: lget Y 29 :: lget Y 30 :: .tup [r4, iv 0] :: lget Y 31 :: lget Y 32 :: lget Y 33 :: lget Y 34 :: lget Y 35 :: lget Y 36 :: lget Y 37 :: lget Y 38 :: lget Y 39 :: lget Y 40 :: lget Y 41 :: lget Y 42 :: lget Y 43 :: lget Y 44 :: lget Y 45 :: lget Y 46 :: lget Y 47 :: lget Y 48 :: lget Y 49 :: lget Y 50 :: lget Y 51 :: lget Y 52 :: lget Y 53 :: lget Y 54 :: lget Y 55 :: lget Y 56 :: lget Y 57 :: lget Y 58 :: lget Y 59 :: lget Y 60 :: lget Y 61 :: lget Y 62 :: lget Y 63 :: lget Y 64 :: lget Y 65 :: lget Y 66 :: lget Y 67 :: lget Y 68 :: lget Y 69 :: lget Y 70 :: lget Y 71 :: lget Y 72 :: lget Y 73 :: lget Y 74 :: lget Y 75 :: lget Y 76 :: lget Y 77 :: lget Y 78 :: lget Y 79 :: lget Y 80 :: lget Y 81 :: lget Y 82 :: lget Y 83 :: lget Y 84 :: lget Y 85 :: lget Y 86 :: lget Y 87 :: lget Y 88 :: lget Y 89 :: lget Y 90 :: lget Y 91 :: lget Y 92 :: lget Y 93 :: lget Y 94 :: lget Y 95 :: lget Y 96 :: lget Y 97 :: lget Y 98 :: lget Y 99 :: lget Y 100 :: lget Y 101 :: lget Y 102 :: lget Y 103 :: lget Y 104 :: lget Y 105 :: lget Y 106 :: lget Y 107 :: lget Y 108 :: lget Y 109 :: lget Y 110 :: lget Y 111 :: lget Y 112 :: lget Y 113 :: lget Y 114 :: lget Y 115 :: lget Y 116 :: lget Y 117 :: lget Y 118 :: lget Y 119 :: lget Y 120 :: lget Y 121 :: lget Y 122 :: lget Y 123 :: lget Y 124 :: lget Y 125 :: lget Y 126 :: lget Y 127 :: lget Y 128 :: lget Y 129 :: lget Y 130 :: lget Y 131 :: lget Y 132 :: lget Y 133 :: lget Y 134 :: lget Y 135 :: lget Y 136 :: lget Y 137 :: lget Y 138 :: lget Y 139 :: lget Y 140 :: lget Y 141 :: lget Y 142 :: lget Y 143 :: lget Y 144 :: lget Y 145 :: lget Y 146 :: lget Y 147 :: lget Y 148 :: lget Y 149 :: lget Y 150 :: lget Y 151 :: lget Y 152 :: lget Y 153 :: lget Y 154 :: lget Y 155 :: lget Y 156 :: lget Y 157 :: lget Y 158 :: lget Y 159 :: lget Y 160 :: lget Y 161 :: lget Y 162 :: lget Y 163 :: lget Y 164 :: lget Y 165 :: [])) ⟨[_,_,_,_,_,_,_,_,_,_,_,_,_,_,_,_,_,_,_,_,_,_,_,_,_,_,_,_,_,_,_,_,_,_,_,_,_,_,_,_,_,_,_,_,_,_,_,_,_,_,_,_,_,_,_,_,_,_,_,_,_,_,_,_,_,_,_,_,_,_,_,_,_,_,_,_,_,_,_,_,_,_,_,_,_,_,_,_,_,_,_,_,_,_,_,_,_,_,_,_,_,_,_,_,_,_,_,_,_,_,_,_,_,_,_,_,_,_,_,_,_,_,_,_,_,_,_,_,_,_,_,_,_,_,_,_,_,_,_,_,_,_,_,_,_,_,_,_,_,_,_,_,_,_,_,_,_,_,_,_,_,_,_,_,_,_], rfl⟩ ?_
 rintro T ⟨Y, rfl⟩
 repeat (first | apply qN | refine qM rfl rfl ?_ | refine zq9 rfl rfl rfl rfl ?_ | apply qR | apply qS)
 refine wops_cons (wop_bin (op := .add) (v := .int .i64 0) rfl rfl rfl rfl rfl ?_)
 skip
 refine wops_cons (wop_bin (op := .neq) (v := .bool false) rfl rfl rfl rfl rfl ?_)
 repeat (first | refine qM rfl rfl ?_ | refine zq5 rfl rfl rfl rfl rfl ‹_› ?_)
 refine wops_cons (wop_bin (op := .neq) (v := .bool false) rfl rfl rfl rfl rfl ?_)
 repeat (first | refine qM rfl rfl ?_ | refine zqb rfl rfl rfl ‹_› ?_ | refine zq7 rfl rfl rfl ?_)
 refine wops_cons (wop_callF rfl rfl rfl (fn := Tryz.f69) (by rfl) ?_)
 have hrk4 := hr34.ky
 refine c69 hq H4 _ (.v xv) r m fl rfl (by omega) (Sl.beq (hkx k04)) hrk4.sl hrk4.old hrk4.lk (by omega) (by omega) _ fun H5 k5 n5 => ⟨k5.nx, ?_⟩
 rw [(lE_zero hg).2 ⟨hgd.v.hle, hgd.v.hl, hgd.v.hd⟩]
 have k05 := k04.trans k5
 have b5 := b4.keep (by omega) k5
 have h45 := k5.nx
 have hr5 := hr34.frame k5.nx fun b hb => k5.get b (hr34.old b hb)
 have hrk5 := hr5.ky
 clear hs4
 refine WOps.cut (fun T => ∃ Y : List AV, T = (lget Y 0 :: .v yv :: .ptr H.next 0 :: lget Y 1 :: lget Y 2 :: r :: lget Y 3 :: lget Y 4 :: lget Y 5 :: lget Y 6 :: lget Y 7 :: lget Y 8 :: lget Y 9 :: lget Y 10 :: lget Y 11 :: lget Y 12 :: lget Y 13 :: lget Y 14 :: lget Y 15 :: lget Y 16 :: lget Y 17 :: lget Y 18 :: lget Y 19 :: lget Y 20 :: lget Y 21 :: lget Y 22 :: lget Y 23 :: lget Y 24 :: lget Y 25 :: lget Y 26 :: lget Y 27 :: lget Y 28 :: lget Y 29 :: lget Y 30 :: lget Y 31 :: lget Y 32 :: lget Y 33 :: lget Y 34 :: lget Y 35 :: lget Y 36 :: lget Y 37 :: lget Y 38 :: lget Y 39 :: lget Y 40 :: lget Y 41 :: lget Y 42 :: lget Y 43 :: .v (.bool false) :: lget Y 44 :: lget Y 45 :: iv 0 :: lget Y 46 :: lget Y 47 :: lget Y 48 :: lget Y 49 :: lget Y 50 :: lget Y 51 :: lget Y 52 :: lget Y 53 :: lget Y 54 :: lget Y 55 :: lget Y 56 :: lget Y 57 :: lget Y 58 :: lget Y 59 :: lget Y 60 :: lget Y 61 :: lget Y 62 :: lget Y 63 :: lget Y 64 :: lget Y 65 :: lget Y 66 :: lget Y 67 :: lget Y 68 :: lget Y 69 :: lget Y 70 :: lget Y 71 :: lget Y 72 :: lget Y 73 :: lget Y 74 :: lget Y 75 :: lget Y 76 :: lget Y 77 :: lget Y 78 :: lget Y 79 :: lget Y 80 :: lget Y 81 :: lget Y 82 :: lget Y 83 :: lget Y 84 :: lget Y 85 :: lget Y 86 :: lget Y 87 :: lget Y 88 :: lget Y 89 :: lget Y 90 :: lget Y 91 :: lget Y 92 :: lget Y 93 :: lget Y 94 :: lget Y 95 :: lget Y 96 :: lget Y 97 :: lget Y 98 :: lget Y 99 :: lget Y 100 :: lget Y 101 :: lget Y 102 :: lget Y 103 :: lget Y 104 :: lget Y 105 :: lget Y 106 :: lget Y 107 :: lget Y 108 :: lget Y 109 :: lget Y 110 :: lget Y 111 :: lget Y 112 :: lget Y 113 :: lget Y 114 :: lget Y 115 :: lget Y 116 :: lget Y 117 :: lget Y 118 :: lget Y 119 :: lget Y 120 :: lget Y 121 :: lget Y 122 :: lget Y 123 :: lget Y 124 :: lget Y 125 :: lget Y 126 :: lget Y 127 :: lget Y 128 :: lget Y 129 :: lget Y 130 :: lget Y 131 :: lget Y 132 :: lget Y 133 :: lget Y 134 :: lget Y 135 :: lget Y 136 :: lget Y 137 :: lget Y 138 :: lget Y 139 :: lget Y 140 :: lget Y 141 :: lget Y 142 :: lget Y 143 :: lget Y 144 :: lget Y 145 :: lget Y 146 :: lget Y 147 :: lget Y 148 :: lget Y 149 :: lget Y 150 :: lget Y 151 :: lget Y 152 :: lget Y 153 :: lget Y 154 :: lget Y 155 :: lget Y 156 :: lget Y 157 :: lget Y 158 :: lget Y 159 :: lget Y 160 :: lget Y 161 :: lget Y 162 :: lget Y 163 :: lget Y 164 :: lget Y 165 :: [])) ⟨[_,_,_,_,_,_,_,_,_,_,_,_,_,_,_,_,_,_,_,_,_,_,_,_,_,_,_,_,_,_,_,_,_,_,_,_,_,_,_,_,_,_,_,_,_,_,_,_,_,_,_,_,_,_,_,_,_,_,_,_,_,_,_,_,_,_,_,_,_,_,_,_,_,_,_,_,_,_,_,_,_,_,_,_,_,_,_,_,_,_,_,_,_,_,_,_,_,_,_,_,_,_,_,_,_,_,_,_,_,_,_,_,_,_,_,_,_,_,_,_,_,_,_,_,_,_,_,_,_,_,_,_,_,_,_,_,_,_,_,_,_,_,_,_,_,_,_,_,_,_,_,_,_,_,_,_,_,_,_,_,_,_,_,_,_,_], rfl⟩ ?_
 rintro T ⟨Y, rfl⟩
 skip
 refine wops_cons (wop_bin (op := .neq) (v := .bool false) rfl rfl rfl rfl rfl ?_)
 repeat (first | refine qM rfl rfl ?_ | refine zqb rfl rfl rfl ‹_› ?_ | refine zq7 rfl rfl rfl ?_)
 refine wops_cons (wop_callF rfl rfl rfl (fn := Tryz.f35) (by rfl) ?_)
 refine c35 hq H5 _ (.v xv) r m fl n _ rfl (hkx k05) (Old.v _) hrk5.sl hrk5.old hrk5.cap hrk5.lk hgd.v.good (by omega) _ (fun H6 k p k6 n6 f1 => (mtF_not f1 (hgd.nv _)).elim) (fun H6 k6 n6 f1 => ⟨k6.nx, ?_⟩)
 have k06 := k05.trans k6
 have b6 := b5.keep (by omega) k6
 have h56 := k6.nx
 have hr6 := hr5.frame k6.nx fun b hb => k6.get b (hr5.old b hb)
 have hrk6 := hr6.ky
 have hrs6 := hrk6.sl
 have hlk6 := hrk6.lk
 have n6' : H6.next ≤ H.next + 10000000000 := by omega
 have hlt6 : H.next < H6.next := by omega
 clear b1 b2 b3 b4 b5 k1 k2 k3 k4 k5 k6 k02 k03 k04 k05 hr3 hr34 hr5 hrk4 hrk5 hr4 n1 n2 n3 n4 n5 n6 h12 h23 h34 h45 h56
 refine WOps.cut (fun T => ∃ Y : List AV, T = (lget Y 0 :: .v yv :: .ptr H.next 0 :: lget Y 1 :: lget Y 2 :: r :: lget Y 3 :: lget Y 4 :: lget Y 5 :: lget Y 6 :: lget Y 7 :: lget Y 8 :: lget Y 9 :: lget Y 10 :: lget Y 11 :: lget Y 12 :: lget Y 13 :: lget Y 14 :: lget Y 15 :: lget Y 16 :: lget Y 17 :: lget Y 18 :: lget Y 19 :: lget Y 20 :: lget Y 21 :: lget Y 22 :: lget Y 23 :: lget Y 24 :: lget Y 25 :: lget Y 26 :: lget Y 27 :: lget Y 28 :: lget Y 29 :: lget Y 30 :: lget Y 31 :: lget Y 32 :: lget Y 33 :: lget Y 34 :: lget Y 35 :: lget Y 36 :: lget Y 37 :: lget Y 38 :: lget Y 39 :: lget Y 40 :: lget Y 41 :: lget Y 42 :: lget Y 43 :: lget Y 44 :: lget Y 45 :: lget Y 46 :: lget Y 47 :: lget Y 48 :: lget Y 49 :: .v (.bool false) :: lget Y 50 :: lget Y 51 :: iv 0 :: lget Y 52 :: lget Y 53 :: lget Y 54 :: lget Y 55 :: lget Y 56 :: lget Y 57 :: lget Y 58 :: lget Y 59 :: lget Y 60 :: lget Y 61 :: lget Y 62 :: lget Y 63 :: lget Y 64 :: lget Y 65 :: lget Y 66 :: lget Y 67 :: lget Y 68 :: lget Y 69 :: lget Y 70 :: lget Y 71 :: lget Y 72 :: lget Y 73 :: lget Y 74 :: lget Y 75 :: lget Y 76 :: lget Y 77 :: lget Y 78 :: lget Y 79 :: lget Y 80 :: lget Y 81 :: lget Y 82 :: lget Y 83 :: lget Y 84 :: lget Y 85 :: lget Y 86 :: lget Y 87 :: lget Y 88 :: lget Y 89 :: lget Y 90 :: lget Y 91 :: lget Y 92 :: lget Y 93 :: lget Y 94 :: lget Y 95 :: lget Y 96 :: lget Y 97 :: lget Y 98 :: lget Y 99 :: lget Y 100 :: lget Y 101 :: lget Y 102 :: lget Y 103 :: lget Y 104 :: lget Y 105 :: lget Y 106 :: lget Y 107 :: lget Y 108 :: lget Y 109 :: lget Y 110 :: lget Y 111 :: lget Y 112 :: lget Y 113 :: lget Y 114 :: lget Y 115 :: lget Y 116 :: lget Y 117 :: lget Y 118 :: lget Y 119 :: lget Y 120 :: lget Y 121 :: lget Y 122 :: lget Y 123 :: lget Y 124 :: lget Y 125 :: lget Y 126 :: lget Y 127 :: lget Y 128 :: lget Y 129 :: lget Y 130 :: lget Y 131 :: lget Y 132 :: lget Y 133 :: lget Y 134 :: lget Y 135 :: lget Y 136 :: lget Y 137 :: lget Y 138 :: lget Y 139 :: lget Y 140 :: lget Y 141 :: lget Y 142 :: lget Y 143 :: lget Y 144 :: lget Y 145 :: lget Y 146 :: lget Y 147 :: lget Y 148 :: lget Y 149 :: lget Y 150 :: lget Y 151 :: lget Y 152 :: lget Y 153 :: lget Y 154 :: lget Y 155 :: lget Y 156 :: lget Y 157 :: lget Y 158 :: lget Y 159 :: lget Y 160 :: lget Y 161 :: lget Y 162 :: lget Y 163 :: lget Y 164 :: lget Y 165 :: [])) ⟨[_,_,_,_,_,_,_,_,_,_,_,_,_,_,_,_,_,_,_,_,_,_,_,_,_,_,_,_,_,_,_,_,_,_,_,_,_,_,_,_,_,_,_,_,_,_,_,_,_,_,_,_,_,_,_,_,_,_,_,_,_,_,_,_,_,_,_,_,_,_,_,_,_,_,_,_,_,_,_,_,_,_,_,_,_,_,_,_,_,_,_,_,_,_,_,_,_,_,_,_,_,_,_,_,_,_,_,_,_,_,_,_,_,_,_,_,_,_,_,_,_,_,_,_,_,_,_,_,_,_,_,_,_,_,_,_,_,_,_,_,_,_,_,_,_,_,_,_,_,_,_,_,_,_,_,_,_,_,_,_,_,_,_,_,_,_], rfl⟩ ?_
 rintro T ⟨Y, rfl⟩
 skip
 refine wops_cons (wop_bin (op := .neq) (v := .bool false) rfl rfl rfl rfl rfl ?_)
 repeat (first | apply qN | refine qM rfl rfl ?_ | refine zq7 rfl rfl rfl ?_ | refine qF rfl ?_ | apply qR | apply qS | apply qK | apply qB)
 refine wp_loop (fun q T M H' => ∃ (i : Nat) (Y : List AV), q = fl.length + 1 - i ∧ 1 ≤ i ∧ i ≤ fl.length + 1 ∧ H' = H6 ∧ M = [] ∧ T = (lget Y 0 :: .v yv :: .ptr H.next 0 :: lget Y 1 :: lget Y 2 :: r :: lget Y 3 :: lget Y 4 :: lget Y 5 :: iv (i : Nat) :: lget Y 6 :: lget Y 7 :: lget Y 8 :: lget Y 9 :: lget Y 10 :: lget Y 11 :: lget Y 12 :: lget Y 13 :: lget Y 14 :: lget Y 15 :: lget Y 16 :: lget Y 17 :: lget Y 18 :: lget Y 19 :: lget Y 20 :: lget Y 21 :: lget Y 22 :: lget Y 23 :: lget Y 24 :: lget Y 25 :: lget Y 26 :: lget Y 27 :: lget Y 28 :: lget Y 29 :: lget Y 30 :: lget Y 31 :: lget Y 32 :: lget Y 33 :: lget Y 34 :: lget Y 35 :: lget Y 36 :: lget Y 37 :: lget Y 38 :: lget Y 39 :: lget Y 40 :: lget Y 41 :: lget Y 42 :: lget Y 43 :: lget Y 44 :: lget Y 45 :: lget Y 46 :: lget Y 47 :: lget Y 48 :: lget Y 49 :: lget Y 50 :: lget Y 51 :: lget Y 52 :: lget Y 53 :: lget Y 54 :: lget Y 55 :: lget Y 56 :: lget Y 57 :: lget Y 58 :: lget Y 59 :: lget Y 60 :: lget Y 61 :: lget Y 62 :: lget Y 63 :: lget Y 64 :: lget Y 65 :: lget Y 66 :: lget Y 67 :: lget Y 68 :: lget Y 69 :: lget Y 70 :: lget Y 71 :: lget Y 72 :: lget Y 73 :: lget Y 74 :: lget Y 75 :: lget Y 76 :: lget Y 77 :: lget Y 78 :: lget Y 79 :: lget Y 80 :: lget Y 81 :: lget Y 82 :: lget Y 83 :: lget Y 84 :: lget Y 85 :: lget Y 86 :: lget Y 87 :: lget Y 88 :: lget Y 89 :: lget Y 90 :: lget Y 91 :: lget Y 92 :: lget Y 93 :: lget Y 94 :: lget Y 95 :: lget Y 96 :: lget Y 97 :: lget Y 98 :: lget Y 99 :: lget Y 100 :: lget Y 101 :: lget Y 102 :: lget Y 103 :: lget Y 104 :: lget Y 105 :: lget Y 106 :: lget Y 107 :: lget Y 108 :: lget Y 109 :: lget Y 110 :: lget Y 111 :: lget Y 112 :: lget Y 113 :: lget Y 114 :: lget Y 115 :: lget Y 116 :: lget Y 117 :: lget Y 118 :: lget Y 119 :: lget Y 120 :: lget Y 121 :: lget Y 122 :: lget Y 123 :: lget Y 124 :: lget Y 125 :: lget Y 126 :: lget Y 127 :: lget Y 128 :: lget Y 129 :: lget Y 130 :: lget Y 131 :: lget Y 132 :: lget Y 133 :: lget Y 134 :: lget Y 135 :: lget Y 136 :: lget Y 137 :: lget Y 138 :: lget Y 139 :: lget Y 140 :: lget Y 141 :: lget Y 142 :: lget Y 143 :: lget Y 144 :: lget Y 145 :: lget Y 146 :: lget Y 147 :: lget Y 148 :: lget Y 149 :: lget Y 150 :: lget Y 151 :: lget Y 152 :: lget Y 153 :: lget Y 154 :: lget Y 155 :: lget Y 156 :: lget Y 157 :: lget Y 158 :: lget Y 159 :: lget Y 160 :: lget Y 161 :: lget Y 162 :: lget Y 163 :: lget Y 164 :: lget Y 165 :: lget Y 166 :: [])) (fl.length + 1 - 1)
   ⟨1, [_,_,_,_,_,_,_,_,_,_,_,_,_,_,_,_,_,_,_,_,_,_,_,_,_,_,_,_,_,_,_,_,_,_,_,_,_,_,_,_,_,_,_,_,_,_,_,_,_,_,_,_,_,_,_,_,_,_,_,_,_,_,_,_,_,_,_,_,_,_,_,_,_,_,_,_,_,_,_,_,_,_,_,_,_,_,_,_,_,_,_,_,_,_,_,_,_,_,_,_,_,_,_,_,_,_,_,_,_,_,_,_,_,_,_,_,_,_,_,_,_,_,_,_,_,_,_,_,_,_,_,_,_,_,_,_,_,_,_,_,_,_,_,_,_,_,_,_,_,_,_,_,_,_,_,_,_,_,_,_,_,_,_,_,_,_,_], rfl, Nat.le_refl _, by omega, rfl, rfl, rfl⟩ ?_
 rintro q T M H' ⟨i, Y, hq1, hi1, hi, rfl, rfl, rfl⟩
 repeat (first | refine qM rfl rfl ?_ | refine zq5 rfl rfl rfl rfl rfl ‹_› ?_ | apply qR | apply qS)
 refine wops_cons (wop_cmp rfl rfl rfl rfl rfl (fun h => ?_) (fun h => ?_))
 · have hi2 : (i : Int) < (fl.length : Nat) := of_decide_eq_true h
   clear h
   obtain ⟨z1, hz1⟩ := l_some (l := fl) (i := i) (by omega)
   obtain ⟨z0, hz0⟩ := l_some (l := fl) (i := i - 1) (by omega)
   have hlt : z0 < z1 := by
     have hp := List.pairwise_iff_getElem.1 hgd.inc (i - 1) i (by omega) (by omega) (by omega)
     rw [List.getElem?_eq_getElem (by omega)] at hz0 hz1
     cases hz0; cases hz1; exact hp
   repeat (first | apply qN | refine qT rfl ?_ | apply qS | apply qK | apply qB)
   refine Wp.mono (Q := fun x' T' M' H'' => x' = .normal ∧ M' = [] ∧ H'' = H' ∧ ∃ (Y : List AV), T' = (lget Y 0 :: .v yv :: .ptr H.next 0 :: lget Y 1 :: lget Y 2 :: r :: lget Y 3 :: lget Y 4 :: lget Y 5 :: iv (i : Nat) :: lget Y 6 :: lget Y 7 :: lget Y 8 :: lget Y 9 :: lget Y 10 :: lget Y 11 :: lget Y 12 :: lget Y 13 :: lget Y 14 :: lget Y 15 :: lget Y 16 :: lget Y 17 :: lget Y 18 :: lget Y 19 :: lget Y 20 :: lget Y 21 :: lget Y 22 :: lget Y 23 :: lget Y 24 :: lget Y 25 :: lget Y 26 :: lget Y 27 :: lget Y 28 :: lget Y 29 :: lget Y 30 :: lget Y 31 :: lget Y 32 :: lget Y 33 :: lget Y 34 :: lget Y 35 :: lget Y 36 :: lget Y 37 :: lget Y 38 :: lget Y 39 :: lget Y 40 :: lget Y 41 :: lget Y 42 :: lget Y 43 :: lget Y 44 :: lget Y 45 :: lget Y 46 :: lget Y 47 :: lget Y 48 :: lget Y 49 :: lget Y 50 :: lget Y 51 :: lget Y 52 :: lget Y 53 :: lget Y 54 :: lget Y 55 :: lget Y 56 :: lget Y 57 :: lget Y 58 :: lget Y 59 :: lget Y 60 :: lget Y 61 :: lget Y 62 :: lget Y 63 :: lget Y 64 :: lget Y 65 :: lget Y 66 :: lget Y 67 :: lget Y 68 :: lget Y 69 :: .v (.bool false) :: lget Y 70 :: lget Y 71 :: lget Y 72 :: lget Y 73 :: lget Y 74 :: lget Y 75 :: lget Y 76 :: lget Y 77 :: lget Y 78 :: lget Y 79 :: lget Y 80 :: lget Y 81 :: lget Y 82 :: lget Y 83 :: lget Y 84 :: lget Y 85 :: lget Y 86 :: lget Y 87 :: lget Y 88 :: lget Y 89 :: lget Y 90 :: lget Y 91 :: lget Y 92 :: lget Y 93 :: lget Y 94 :: lget Y 95 :: lget Y 96 :: lget Y 97 :: lget Y 98 :: lget Y 99 :: lget Y 100 :: lget Y 101 :: lget Y 102 :: lget Y 103 :: lget Y 104 :: lget Y 105 :: lget Y 106 :: lget Y 107 :: lget Y 108 :: lget Y 109 :: lget Y 110 :: lget Y 111 :: lget Y 112 :: lget Y 113 :: lget Y 114 :: lget Y 115 :: lget Y 116 :: lget Y 117 :: lget Y 118 :: lget Y 119 :: lget Y 120 :: lget Y 121 :: lget Y 122 :: lget Y 123 :: lget Y 124 :: lget Y 125 :: lget Y 126 :: lget Y 127 :: lget Y 128 :: lget Y 129 :: lget Y 130 :: lget Y 131 :: lget Y 132 :: lget Y 133 :: lget Y 134 :: lget Y 135 :: lget Y 136 :: lget Y 137 :: lget Y 138 :: lget Y 139 :: lget Y 140 :: lget Y 141 :: lget Y 142 :: lget Y 143 :: lget Y 144 :: lget Y 145 :: lget Y 146 :: lget Y 147 :: lget Y 148 :: lget Y 149 :: lget Y 150 :: lget Y 151 :: lget Y 152 :: lget Y 153 :: lget Y 154 :: lget Y 155 :: lget Y 156 :: lget Y 157 :: lget Y 158 :: lget Y 159 :: lget Y 160 :: lget Y 161 :: lget Y 162 :: lget Y 163 :: lget Y 164 :: lget Y 165 :: [])) (wp_drawK rfl ?_) ?_
   · repeat (first | refine k_move rfl rfl rfl ?_)
     refine k_indexI rfl rfl rfl hrs6 rfl hz1 hlk6 fun p1 hp1 hl1 => ?_
     repeat (first | refine k_move rfl rfl rfl ?_ | refine k_load rfl rfl rfl ‹_› ‹_› ?_)
     refine k_bin (op := .sub) (v := .int .i64 ((i - 1 : Nat) : Int)) rfl rfl rfl rfl rfl (by show binI .sub .i64 .i64 (i : Int) 1 = _; rw [sub1 (by omega)]; congr 2; omega) ?_
     skip
     refine k_indexI rfl rfl rfl hrs6 rfl hz0 hlk6 fun p0 hp0 hl0 => ?_
     repeat (first | refine k_load rfl rfl rfl ‹_› ‹_› ?_)
     refine k_bin (op := .leq) (v := .bool false) rfl rfl rfl rfl rfl (by show some (Value.bool (decide (z1 ≤ z0))) = _; rw [decide_eq_false (by omega)]) ?_
     repeat (first | refine k_nil ?_)
     exact ⟨rfl, rfl, rfl, [_,_,_,_,_,_,_,_,_,_,_,_,_,_,_,_,_,_,_,_,_,_,_,_,_,_,_,_,_,_,_,_,_,_,_,_,_,_,_,_,_,_,_,_,_,_,_,_,_,_,_,_,_,_,_,_,_,_,_,_,_,_,_,_,_,_,_,_,_,_,_,_,_,_,_,_,_,_,_,_,_,_,_,_,_,_,_,_,_,_,_,_,_,_,_,_,_,_,_,_,_,_,_,_,_,_,_,_,_,_,_,_,_,_,_,_,_,_,_,_,_,_,_,_,_,_,_,_,_,_,_,_,_,_,_,_,_,_,_,_,_,_,_,_,_,_,_,_,_,_,_,_,_,_,_,_,_,_,_,_,_,_,_,_,_,_], rfl⟩
   rintro x' T' M' H'' ⟨rfl, rfl, rfl, Y2, rfl⟩
   repeat (first | apply qN | refine qM rfl rfl ?_ | refine zq4 rfl rfl rfl rfl (inc (by omega)) ?_ | refine qF rfl ?_ | apply qR | apply qK)
   exact ⟨fl.length + 1 - (i + 1), by omega, i + 1, [_,_,_,_,_,_,_,_,_,_,_,_,_,_,_,_,_,_,_,_,_,_,_,_,_,_,_,_,_,_,_,_,_,_,_,_,_,_,_,_,_,_,_,_,_,_,_,_,_,_,_,_,_,_,_,_,_,_,_,_,_,_,_,_,_,_,_,_,_,_,_,_,_,_,_,_,_,_,_,_,_,_,_,_,_,_,_,_,_,_,_,_,_,_,_,_,_,_,_,_,_,_,_,_,_,_,_,_,_,_,_,_,_,_,_,_,_,_,_,_,_,_,_,_,_,_,_,_,_,_,_,_,_,_,_,_,_,_,_,_,_,_,_,_,_,_,_,_,_,_,_,_,_,_,_,_,_,_,_,_,_,_,_,_,_,_,_], rfl, by omega, by omega, rfl, rfl, rfl⟩
 clear h hi hi1 hq1
 repeat (first | apply qN | refine qM rfl rfl ?_ | refine zqb rfl rfl rfl ‹_› ?_ | refine qF rfl ?_ | apply qR | apply qS | apply qE)
 refine wops_cons (wop_callF rfl rfl rfl (fn := Tryz.f39) (by rfl) ?_)
 have hky6 := hky.keep k06
 by_cases hnev : never m l n
 rotate_left
 · refine c39m hq H' _ (.v xv) _ m l n rfl (hkx k06) (Old.v _) hky6 hV hnev (by omega) _ fun H7 k7 n7 => ⟨k7.nx, ?_⟩
   have k07 := k06.trans k7
   have b7 := b6.keep (by omega) k7
   have hky7 := hky.keep k07
   refine WOps.cut (fun T => ∃ Y : List AV, T = (lget Y 0 :: .v yv :: .ptr H.next 0 :: lget Y 1 :: lget Y 2 :: lget Y 3 :: lget Y 4 :: lget Y 5 :: lget Y 6 :: lget Y 7 :: lget Y 8 :: lget Y 9 :: lget Y 10 :: lget Y 11 :: lget Y 12 :: lget Y 13 :: lget Y 14 :: lget Y 15 :: lget Y 16 :: lget Y 17 :: lget Y 18 :: lget Y 19 :: lget Y 20 :: lget Y 21 :: lget Y 22 :: lget Y 23 :: lget Y 24 :: lget Y 25 :: lget Y 26 :: lget Y 27 :: lget Y 28 :: lget Y 29 :: lget Y 30 :: lget Y 31 :: lget Y 32 :: lget Y 33 :: lget Y 34 :: lget Y 35 :: lget Y 36 :: lget Y 37 :: lget Y 38 :: lget Y 39 :: lget Y 40 :: lget Y 41 :: lget Y 42 :: lget Y 43 :: lget Y 44 :: lget Y 45 :: lget Y 46 :: lget Y 47 :: lget Y 48 :: lget Y 49 :: lget Y 50 :: lget Y 51 :: lget Y 52 :: lget Y 53 :: lget Y 54 :: lget Y 55 :: lget Y 56 :: lget Y 57 :: lget Y 58 :: lget Y 59 :: lget Y 60 :: lget Y 61 :: lget Y 62 :: lget Y 63 :: lget Y 64 :: lget Y 65 :: lget Y 66 :: lget Y 67 :: lget Y 68 :: lget Y 69 :: lget Y 70 :: lget Y 71 :: lget Y 72 :: lget Y 73 :: lget Y 74 :: lget Y 75 :: .tup [.v (.slice none 0 0), iv 16] :: lget Y 76 :: lget Y 77 :: lget Y 78 :: lget Y 79 :: lget Y 80 :: lget Y 81 :: lget Y 82 :: lget Y 83 :: lget Y 84 :: lget Y 85 :: lget Y 86 :: lget Y 87 :: lget Y 88 :: lget Y 89 :: lget Y 90 :: lget Y 91 :: lget Y 92 :: lget Y 93 :: lget Y 94 :: lget Y 95 :: lget Y 96 :: lget Y 97 :: lget Y 98 :: lget Y 99 :: lget Y 100 :: lget Y 101 :: lget Y 102 :: lget Y 103 :: lget Y 104 :: lget Y 105 :: lget Y 106 :: lget Y 107 :: lget Y 108 :: lget Y 109 :: lget Y 110 :: lget Y 111 :: lget Y 112 :: lget Y 113 :: lget Y 114 :: lget Y 115 :: lget Y 116 :: lget Y 117 :: lget Y 118 :: lget Y 119 :: lget Y 120 :: lget Y 121 :: lget Y 122 :: lget Y 123 :: lget Y 124 :: lget Y 125 :: lget Y 126 :: lget Y 127 :: lget Y 128 :: lget Y 129 :: lget Y 130 :: lget Y 131 :: lget Y 132 :: lget Y 133 :: lget Y 134 :: lget Y 135 :: lget Y 136 :: lget Y 137 :: lget Y 138 :: lget Y 139 :: lget Y 140 :: lget Y 141 :: lget Y 142 :: lget Y 143 :: lget Y 144 :: lget Y 145 :: lget Y 146 :: lget Y 147 :: lget Y 148 :: lget Y 149 :: lget Y 150 :: lget Y 151 :: lget Y 152 :: lget Y 153 :: lget Y 154 :: lget Y 155 :: lget Y 156 :: lget Y 157 :: lget Y 158 :: lget Y 159 :: lget Y 160 :: lget Y 161 :: lget Y 162 :: lget Y 163 :: lget Y 164 :: lget Y 165 :: lget Y 166 :: lget Y 167 :: [])) ⟨[_,_,_,_,_,_,_,_,_,_,_,_,_,_,_,_,_,_,_,_,_,_,_,_,_,_,_,_,_,_,_,_,_,_,_,_,_,_,_,_,_,_,_,_,_,_,_,_,_,_,_,_,_,_,_,_,_,_,_,_,_,_,_,_,_,_,_,_,_,_,_,_,_,_,_,_,_,_,_,_,_,_,_,_,_,_,_,_,_,_,_,_,_,_,_,_,_,_,_,_,_,_,_,_,_,_,_,_,_,_,_,_,_,_,_,_,_,_,_,_,_,_,_,_,_,_,_,_,_,_,_,_,_,_,_,_,_,_,_,_,_,_,_,_,_,_,_,_,_,_,_,_,_,_,_,_,_,_,_,_,_,_,_,_,_,_,_,_], rfl⟩ ?_
   rintro T ⟨Y, rfl⟩
   repeat (first | apply qN | refine qM rfl rfl ?_ | refine zqb rfl rfl rfl ‹_› ?_ | refine zq9 rfl rfl rfl rfl ?_ | apply qR | apply qS)
   refine wops_cons (wop_callF rfl rfl rfl (fn := Tryz.f35) (by rfl) ?_)
   refine c35 hq H7 _ (.v xv) _ m l n _ rfl (hkx k07) (Old.v _) hky7.sl hky7.old hky7.cap hky7.lk hV.good (by omega) _ (fun H8 k p k8 n8 f1 => ⟨k8.nx, ?_⟩) (fun H8 k8 n8 f1 => (hnev f1).elim)
   have hnil : Sl H8 (.v (.slice none 0 0)) (ivs []) := ⟨rfl, .inl rfl⟩
   skip
   refine wops_cons (wop_bin (op := .neq) (v := .bool true) rfl rfl rfl rfl rfl ?_)
   repeat (first | apply qN | refine qM rfl rfl ?_ | refine qT rfl ?_ | apply qR | apply qS)
   refine wops_cons (wop_bin (op := .eql) (v := .bool true) rfl rfl rfl rfl rfl ?_)
   repeat (first | refine qM rfl rfl ?_ | refine zq5 rfl rfl rfl rfl rfl ‹_› ?_)
   refine wops_cons (wop_bin (op := .eql) (v := .bool true) rfl rfl rfl rfl rfl ?_)
   repeat (first | apply qN | refine qM rfl rfl ?_ | refine zq7 rfl rfl rfl ?_)
   refine wp_ret ?_
   exact ⟨_, _, rfl, hk _⟩
 have hlf := hge hV hnev
 refine cFreeV hq H' _ (.v xv) _ m l n rfl (hkx k06) (Old.v _) hky6.sl hcap hV (by omega) hnev (by omega) _ fun H7 s fr k7 n7 hs7 hfr => ⟨k7.nx, ?_⟩
 have k07 := k06.trans k7
 have b7 := b6.keep (by omega) k7
 have hky7 := hky.keep k07
 have h67 := k7.nx
 have hr7 := hr6.frame k7.nx fun b hb => k7.get b (hr6.old b hb)
 refine WOps.cut (fun T => ∃ Y : List AV, T = (lget Y 0 :: .v yv :: .ptr H.next 0 :: lget Y 1 :: lget Y 2 :: r :: lget Y 3 :: lget Y 4 :: lget Y 5 :: lget Y 6 :: lget Y 7 :: lget Y 8 :: lget Y 9 :: lget Y 10 :: lget Y 11 :: lget Y 12 :: lget Y 13 :: lget Y 14 :: lget Y 15 :: lget Y 16 :: lget Y 17 :: lget Y 18 :: lget Y 19 :: lget Y 20 :: lget Y 21 :: lget Y 22 :: lget Y 23 :: lget Y 24 :: lget Y 25 :: lget Y 26 :: lget Y 27 :: lget Y 28 :: lget Y 29 :: lget Y 30 :: lget Y 31 :: lget Y 32 :: lget Y 33 :: lget Y 34 :: lget Y 35 :: lget Y 36 :: lget Y 37 :: lget Y 38 :: lget Y 39 :: lget Y 40 :: lget Y 41 :: lget Y 42 :: lget Y 43 :: lget Y 44 :: lget Y 45 :: lget Y 46 :: lget Y 47 :: lget Y 48 :: lget Y 49 :: lget Y 50 :: lget Y 51 :: lget Y 52 :: lget Y 53 :: lget Y 54 :: lget Y 55 :: lget Y 56 :: lget Y 57 :: lget Y 58 :: lget Y 59 :: lget Y 60 :: lget Y 61 :: lget Y 62 :: lget Y 63 :: lget Y 64 :: lget Y 65 :: lget Y 66 :: lget Y 67 :: lget Y 68 :: lget Y 69 :: lget Y 70 :: lget Y 71 :: lget Y 72 :: lget Y 73 :: lget Y 74 :: .tup [s, iv 0] :: lget Y 75 :: lget Y 76 :: lget Y 77 :: lget Y 78 :: lget Y 79 :: lget Y 80 :: lget Y 81 :: lget Y 82 :: lget Y 83 :: lget Y 84 :: lget Y 85 :: lget Y 86 :: lget Y 87 :: lget Y 88 :: lget Y 89 :: lget Y 90 :: lget Y 91 :: lget Y 92 :: lget Y 93 :: lget Y 94 :: lget Y 95 :: lget Y 96 :: lget Y 97 :: lget Y 98 :: lget Y 99 :: lget Y 100 :: lget Y 101 :: lget Y 102 :: lget Y 103 :: lget Y 104 :: lget Y 105 :: lget Y 106 :: lget Y 107 :: lget Y 108 :: lget Y 109 :: lget Y 110 :: lget Y 111 :: lget Y 112 :: lget Y 113 :: lget Y 114 :: lget Y 115 :: lget Y 116 :: lget Y 117 :: lget Y 118 :: lget Y 119 :: lget Y 120 :: lget Y 121 :: lget Y 122 :: lget Y 123 :: lget Y 124 :: lget Y 125 :: lget Y 126 :: lget Y 127 :: lget Y 128 :: lget Y 129 :: lget Y 130 :: lget Y 131 :: lget Y 132 :: lget Y 133 :: lget Y 134 :: lget Y 135 :: lget Y 136 :: lget Y 137 :: lget Y 138 :: lget Y 139 :: lget Y 140 :: lget Y 141 :: lget Y 142 :: lget Y 143 :: lget Y 144 :: lget Y 145 :: lget Y 146 :: lget Y 147 :: lget Y 148 :: lget Y 149 :: lget Y 150 :: lget Y 151 :: lget Y 152 :: lget Y 153 :: lget Y 154 :: lget Y 155 :: lget Y 156 :: lget Y 157 :: lget Y 158 :: lget Y 159 :: lget Y 160 :: lget Y 161 :: lget Y 162 :: lget Y 163 :: lget Y 164 :: lget Y 165 :: lget Y 166 :: [])) ⟨[_,_,_,_,_,_,_,_,_,_,_,_,_,_,_,_,_,_,_,_,_,_,_,_,_,_,_,_,_,_,_,_,_,_,_,_,_,_,_,_,_,_,_,_,_,_,_,_,_,_,_,_,_,_,_,_,_,_,_,_,_,_,_,_,_,_,_,_,_,_,_,_,_,_,_,_,_,_,_,_,_,_,_,_,_,_,_,_,_,_,_,_,_,_,_,_,_,_,_,_,_,_,_,_,_,_,_,_,_,_,_,_,_,_,_,_,_,_,_,_,_,_,_,_,_,_,_,_,_,_,_,_,_,_,_,_,_,_,_,_,_,_,_,_,_,_,_,_,_,_,_,_,_,_,_,_,_,_,_,_,_,_,_,_,_,_,_], rfl⟩ ?_
 rintro T ⟨Y, rfl⟩
 repeat (first | apply qN | refine qM rfl rfl ?_ | refine zqb rfl rfl rfl ‹_› ?_ | refine zq9 rfl rfl rfl rfl ?_ | apply qR | apply qS)
 refine wops_cons (wop_callF rfl rfl rfl (fn := Tryz.f35) (by rfl) ?_)
 refine c35 hq H7 _ (.v xv) _ m l n _ rfl (hkx k07) (Old.v _) hky7.sl hky7.old hky7.cap hky7.lk hV.good (by omega) _ (fun H8 k p k8 n8 f1 => (mtF_not f1 (hnev _)).elim) (fun H8 k8 n8 f1 => ⟨k8.nx, ?_⟩)
 have k08 := k07.trans k8
 have b8 := b7.keep (by omega) k8
 have hky8 := hky.keep k08
 have hys8 := hky8.sl
 have h78 := k8.nx
 have hs8 := hs7.frame k8.nx fun b hb => k8.get b (hs7.old b hb)
 have hss8 := hs8.sl
 have hr8 := hr7.frame k8.nx fun b hb => k8.get b (hr7.old b hb)
 have hrs8 := hr8.sl
 have hp1 := b8.p1
 rw [hg] at hp1
 have n8' : H8.next ≤ H.next + 20000000000 := by omega
 have hlt8 : H.next < H8.next := by omega
 clear hrs6 hlk6 hrk6 hr6 hr7 hs7 b6 b7 k06 k07 k7 k8 n7 n8 hky6 hky7 h67 h78 n6' hlt6
 refine WOps.cut (fun T => ∃ Y : List AV, T = (lget Y 0 :: .v yv :: .ptr H.next 0 :: lget Y 1 :: lget Y 2 :: r :: lget Y 3 :: lget Y 4 :: lget Y 5 :: lget Y 6 :: s :: iv 0 :: lget Y 7 :: lget Y 8 :: lget Y 9 :: lget Y 10 :: lget Y 11 :: lget Y 12 :: lget Y 13 :: lget Y 14 :: lget Y 15 :: lget Y 16 :: lget Y 17 :: lget Y 18 :: lget Y 19 :: lget Y 20 :: lget Y 21 :: lget Y 22 :: lget Y 23 :: lget Y 24 :: lget Y 25 :: lget Y 26 :: lget Y 27 :: lget Y 28 :: lget Y 29 :: lget Y 30 :: lget Y 31 :: lget Y 32 :: lget Y 33 :: lget Y 34 :: lget Y 35 :: lget Y 36 :: lget Y 37 :: lget Y 38 :: lget Y 39 :: lget Y 40 :: lget Y 41 :: lget Y 42 :: lget Y 43 :: lget Y 44 :: lget Y 45 :: lget Y 46 :: lget Y 47 :: lget Y 48 :: lget Y 49 :: lget Y 50 :: lget Y 51 :: lget Y 52 :: lget Y 53 :: lget Y 54 :: lget Y 55 :: lget Y 56 :: lget Y 57 :: lget Y 58 :: lget Y 59 :: lget Y 60 :: lget Y 61 :: lget Y 62 :: lget Y 63 :: lget Y 64 :: lget Y 65 :: lget Y 66 :: lget Y 67 :: lget Y 68 :: lget Y 69 :: lget Y 70 :: lget Y 71 :: lget Y 72 :: lget Y 73 :: lget Y 74 :: lget Y 75 :: lget Y 76 :: lget Y 77 :: iv 0 :: lget Y 78 :: lget Y 79 :: lget Y 80 :: lget Y 81 :: lget Y 82 :: lget Y 83 :: lget Y 84 :: lget Y 85 :: lget Y 86 :: lget Y 87 :: lget Y 88 :: lget Y 89 :: lget Y 90 :: lget Y 91 :: lget Y 92 :: lget Y 93 :: lget Y 94 :: lget Y 95 :: lget Y 96 :: lget Y 97 :: lget Y 98 :: lget Y 99 :: lget Y 100 :: lget Y 101 :: lget Y 102 :: lget Y 103 :: lget Y 104 :: lget Y 105 :: lget Y 106 :: lget Y 107 :: lget Y 108 :: lget Y 109 :: lget Y 110 :: lget Y 111 :: lget Y 112 :: lget Y 113 :: lget Y 114 :: lget Y 115 :: lget Y 116 :: lget Y 117 :: lget Y 118 :: lget Y 119 :: lget Y 120 :: lget Y 121 :: lget Y 122 :: lget Y 123 :: lget Y 124 :: lget Y 125 :: lget Y 126 :: lget Y 127 :: lget Y 128 :: lget Y 129 :: lget Y 130 :: lget Y 131 :: lget Y 132 :: lget Y 133 :: lget Y 134 :: lget Y 135 :: lget Y 136 :: lget Y 137 :: lget Y 138 :: lget Y 139 :: lget Y 140 :: lget Y 141 :: lget Y 142 :: lget Y 143 :: lget Y 144 :: lget Y 145 :: lget Y 146 :: lget Y 147 :: lget Y 148 :: lget Y 149 :: lget Y 150 :: lget Y 151 :: lget Y 152 :: lget Y 153 :: lget Y 154 :: lget Y 155 :: lget Y 156 :: lget Y 157 :: lget Y 158 :: lget Y 159 :: lget Y 160 :: lget Y 161 :: lget Y 162 :: lget Y 163 :: lget Y 164 :: [])) ⟨[_,_,_,_,_,_,_,_,_,_,_,_,_,_,_,_,_,_,_,_,_,_,_,_,_,_,_,_,_,_,_,_,_,_,_,_,_,_,_,_,_,_,_,_,_,_,_,_,_,_,_,_,_,_,_,_,_,_,_,_,_,_,_,_,_,_,_,_,_,_,_,_,_,_,_,_,_,_,_,_,_,_,_,_,_,_,_,_,_,_,_,_,_,_,_,_,_,_,_,_,_,_,_,_,_,_,_,_,_,_,_,_,_,_,_,_,_,_,_,_,_,_,_,_,_,_,_,_,_,_,_,_,_,_,_,_,_,_,_,_,_,_,_,_,_,_,_,_,_,_,_,_,_,_,_,_,_,_,_,_,_,_,_,_,_], rfl⟩ ?_
 rintro T ⟨Y, rfl⟩
 skip
 refine wops_cons (wop_bin (op := .neq) (v := .bool false) rfl rfl rfl rfl rfl ?_)
 repeat (first | apply qN | refine qM rfl rfl ?_ | refine qF rfl ?_ | apply qR | apply qS | apply qK)
 refine wops_cons (wop_bin (op := .neq) (v := .bool false) rfl rfl rfl rfl rfl ?_)
 repeat (first | refine qM rfl rfl ?_ | refine zq5 rfl rfl rfl rfl rfl ‹_› ?_)
 refine wops_cons (wop_bin (op := .gtr) (v := .bool false) rfl rfl rfl rfl (by show some (Value.bool (decide ((fl.length : Int) < (l.length : Int)))) = _; rw [decide_eq_false (by omega)]) ?_)
 repeat (first | refine qM rfl rfl ?_ | refine zq5 rfl rfl rfl rfl rfl ‹_› ?_ | refine zq7 rfl rfl rfl ?_)
 refine wops_split 9 ?_
 refine WOps.mono (K := fun T' H' => H8 = H' ∧ ∃ (Y : List AV), T' = (lget Y 0 :: .v yv :: .ptr H.next 0 :: lget Y 1 :: lget Y 2 :: lget Y 3 :: lget Y 4 :: lget Y 5 :: lget Y 6 :: lget Y 7 :: s :: lget Y 8 :: lget Y 9 :: lget Y 10 :: lget Y 11 :: lget Y 12 :: lget Y 13 :: lget Y 14 :: lget Y 15 :: lget Y 16 :: lget Y 17 :: lget Y 18 :: lget Y 19 :: lget Y 20 :: lget Y 21 :: lget Y 22 :: lget Y 23 :: lget Y 24 :: lget Y 25 :: lget Y 26 :: lget Y 27 :: lget Y 28 :: lget Y 29 :: lget Y 30 :: lget Y 31 :: lget Y 32 :: lget Y 33 :: lget Y 34 :: lget Y 35 :: lget Y 36 :: lget Y 37 :: lget Y 38 :: lget Y 39 :: lget Y 40 :: lget Y 41 :: lget Y 42 :: lget Y 43 :: lget Y 44 :: lget Y 45 :: lget Y 46 :: lget Y 47 :: lget Y 48 :: lget Y 49 :: lget Y 50 :: lget Y 51 :: lget Y 52 :: lget Y 53 :: lget Y 54 :: lget Y 55 :: lget Y 56 :: lget Y 57 :: lget Y 58 :: lget Y 59 :: lget Y 60 :: lget Y 61 :: lget Y 62 :: lget Y 63 :: lget Y 64 :: lget Y 65 :: lget Y 66 :: lget Y 67 :: lget Y 68 :: lget Y 69 :: lget Y 70 :: lget Y 71 :: lget Y 72 :: lget Y 73 :: lget Y 74 :: lget Y 75 :: lget Y 76 :: lget Y 77 :: lget Y 78 :: lget Y 79 :: lget Y 80 :: lget Y 81 :: lget Y 82 :: lget Y 83 :: lget Y 84 :: lget Y 85 :: lget Y 86 :: lget Y 87 :: lget Y 88 :: lget Y 89 :: lget Y 90 :: lget Y 91 :: lget Y 92 :: lget Y 93 :: lget Y 94 :: lget Y 95 :: lget Y 96 :: lget Y 97 :: lget Y 98 :: lget Y 99 :: lget Y 100 :: lget Y 101 :: lget Y 102 :: lget Y 103 :: lget Y 104 :: lget Y 105 :: lget Y 106 :: lget Y 107 :: lget Y 108 :: .v (.bool false) :: lget Y 109 :: lget Y 110 :: lget Y 111 :: lget Y 112 :: lget Y 113 :: lget Y 114 :: lget Y 115 :: lget Y 116 :: lget Y 117 :: lget Y 118 :: lget Y 119 :: lget Y 120 :: lget Y 121 :: lget Y 122 :: lget Y 123 :: lget Y 124 :: lget Y 125 :: lget Y 126 :: lget Y 127 :: lget Y 128 :: lget Y 129 :: lget Y 130 :: lget Y 131 :: lget Y 132 :: lget Y 133 :: lget Y 134 :: lget Y 135 :: lget Y 136 :: lget Y 137 :: lget Y 138 :: lget Y 139 :: lget Y 140 :: lget Y 141 :: lget Y 142 :: lget Y 143 :: lget Y 144 :: lget Y 145 :: lget Y 146 :: lget Y 147 :: lget Y 148 :: lget Y 149 :: lget Y 150 :: lget Y 151 :: lget Y 152 :: lget Y 153 :: lget Y 154 :: lget Y 155 :: lget Y 156 :: lget Y 157 :: lget Y 158 :: lget Y 159 :: lget Y 160 :: lget Y 161 :: lget Y 162 :: lget Y 163 :: lget Y 164 :: lget Y 165 :: lget Y 166 :: [])) ?_ ?_
 · by_cases hf0 : 0 < fr.length
   · refine wops_cons (wop_bin (op := .gtr) (v := .bool true) rfl rfl rfl rfl (by show some (Value.bool (decide ((0 : Int) < (fr.length : Int)))) = _; rw [decide_eq_true (by omega)]) ?_)
     repeat (first | refine qM rfl rfl ?_ | refine zq5 rfl rfl rfl rfl rfl ‹_› ?_)
     have hlt : l.length < fl.length := by
       obtain ⟨z, hz⟩ := l_some hf0
       have hz := List.mem_of_getElem? hz
       rw [hfr] at hz
       obtain ⟨g1, g2, g3⟩ := freeL_mem_iff.1 hz
       have := hge (hV.snoc g1 g2) g3
       rw [List.length_append, List.length_singleton] at this
       omega
     refine wops_cons (wop_bin (op := .geq) (v := .bool false) rfl rfl rfl rfl (by show some (Value.bool (decide ((fl.length : Int) ≤ (l.length : Int)))) = _; rw [decide_eq_false (by omega)]) ?_)
     repeat (first | apply qN | refine zq7 rfl rfl rfl ?_)
     exact ⟨rfl, [_,_,_,_,_,_,_,_,_,_,_,_,_,_,_,_,_,_,_,_,_,_,_,_,_,_,_,_,_,_,_,_,_,_,_,_,_,_,_,_,_,_,_,_,_,_,_,_,_,_,_,_,_,_,_,_,_,_,_,_,_,_,_,_,_,_,_,_,_,_,_,_,_,_,_,_,_,_,_,_,_,_,_,_,_,_,_,_,_,_,_,_,_,_,_,_,_,_,_,_,_,_,_,_,_,_,_,_,_,_,_,_,_,_,_,_,_,_,_,_,_,_,_,_,_,_,_,_,_,_,_,_,_,_,_,_,_,_,_,_,_,_,_,_,_,_,_,_,_,_,_,_,_,_,_,_,_,_,_,_,_,_,_,_,_,_,_], rfl⟩
   · refine wops_cons (wop_bin (op := .gtr) (v := .bool false) rfl rfl rfl rfl (by show some (Value.bool (decide ((0 : Int) < (fr.length : Int)))) = _; rw [decide_eq_false (by omega)]) ?_)
     repeat (first | apply qN | refine zq1 rfl rfl ?_ | refine qM rfl rfl ?_ | refine zq7 rfl rfl rfl ?_)
     exact ⟨rfl, [_,_,_,_,_,_,_,_,_,_,_,_,_,_,_,_,_,_,_,_,_,_,_,_,_,_,_,_,_,_,_,_,_,_,_,_,_,_,_,_,_,_,_,_,_,_,_,_,_,_,_,_,_,_,_,_,_,_,_,_,_,_,_,_,_,_,_,_,_,_,_,_,_,_,_,_,_,_,_,_,_,_,_,_,_,_,_,_,_,_,_,_,_,_,_,_,_,_,_,_,_,_,_,_,_,_,_,_,_,_,_,_,_,_,_,_,_,_,_,_,_,_,_,_,_,_,_,_,_,_,_,_,_,_,_,_,_,_,_,_,_,_,_,_,_,_,_,_,_,_,_,_,_,_,_,_,_,_,_,_,_,_,_,_,_,_,_], rfl⟩
 rintro T' H8' ⟨rfl, Y, rfl⟩
 repeat (first | apply qN | refine qM rfl rfl ?_ | refine zqa rfl rfl rfl ?_ | refine zq6 rfl rfl ‹_› ?_ | refine qF rfl ?_ | apply qR | apply qS | apply qK)
 refine wops_cons (wop_bin (op := .mul) (v := .int .i64 ((4 * n : Nat) : Int)) rfl rfl rfl rfl ?_ ?_)
 · rw [mul4 (by omega)]; congr 2
 clear hp1 hrs8 hr8
 repeat (first | apply qN | refine qM rfl rfl ?_ | apply qB)
 refine wp_loop (fun q T M H' => ∃ (i : Nat) (Y : List AV), q = 4 * n - i ∧ i ≤ 4 * n ∧ Keeps H8 H' ∧ H'.next ≤ H8.next + i * 1000000 ∧ M = [] ∧ T = (lget Y 0 :: .v yv :: .ptr H.next 0 :: lget Y 1 :: lget Y 2 :: lget Y 3 :: lget Y 4 :: lget Y 5 :: lget Y 6 :: lget Y 7 :: s :: lget Y 8 :: iv ((freeL m n l i).length : Nat) :: lget Y 9 :: lget Y 10 :: lget Y 11 :: lget Y 12 :: lget Y 13 :: lget Y 14 :: lget Y 15 :: lget Y 16 :: lget Y 17 :: lget Y 18 :: lget Y 19 :: lget Y 20 :: lget Y 21 :: lget Y 22 :: lget Y 23 :: lget Y 24 :: lget Y 25 :: lget Y 26 :: lget Y 27 :: lget Y 28 :: lget Y 29 :: lget Y 30 :: lget Y 31 :: lget Y 32 :: lget Y 33 :: lget Y 34 :: lget Y 35 :: lget Y 36 :: lget Y 37 :: lget Y 38 :: lget Y 39 :: lget Y 40 :: lget Y 41 :: lget Y 42 :: lget Y 43 :: lget Y 44 :: lget Y 45 :: lget Y 46 :: lget Y 47 :: lget Y 48 :: lget Y 49 :: lget Y 50 :: lget Y 51 :: lget Y 52 :: lget Y 53 :: lget Y 54 :: lget Y 55 :: lget Y 56 :: lget Y 57 :: lget Y 58 :: lget Y 59 :: lget Y 60 :: lget Y 61 :: lget Y 62 :: lget Y 63 :: lget Y 64 :: lget Y 65 :: lget Y 66 :: lget Y 67 :: lget Y 68 :: lget Y 69 :: lget Y 70 :: lget Y 71 :: lget Y 72 :: lget Y 73 :: lget Y 74 :: lget Y 75 :: lget Y 76 :: lget Y 77 :: lget Y 78 :: lget Y 79 :: lget Y 80 :: lget Y 81 :: lget Y 82 :: lget Y 83 :: lget Y 84 :: lget Y 85 :: lget Y 86 :: lget Y 87 :: lget Y 88 :: lget Y 89 :: lget Y 90 :: lget Y 91 :: lget Y 92 :: lget Y 93 :: lget Y 94 :: lget Y 95 :: lget Y 96 :: lget Y 97 :: lget Y 98 :: lget Y 99 :: lget Y 100 :: lget Y 101 :: lget Y 102 :: lget Y 103 :: lget Y 104 :: lget Y 105 :: lget Y 106 :: lget Y 107 :: lget Y 108 :: lget Y 109 :: lget Y 110 :: iv (4 * n : Nat) :: iv (i : Nat) :: lget Y 111 :: lget Y 112 :: lget Y 113 :: lget Y 114 :: lget Y 115 :: lget Y 116 :: lget Y 117 :: lget Y 118 :: lget Y 119 :: lget Y 120 :: lget Y 121 :: lget Y 122 :: lget Y 123 :: lget Y 124 :: lget Y 125 :: lget Y 126 :: lget Y 127 :: lget Y 128 :: lget Y 129 :: lget Y 130 :: lget Y 131 :: lget Y 132 :: lget Y 133 :: lget Y 134 :: lget Y 135 :: lget Y 136 :: lget Y 137 :: lget Y 138 :: lget Y 139 :: lget Y 140 :: lget Y 141 :: lget Y 142 :: lget Y 143 :: lget Y 144 :: lget Y 145 :: lget Y 146 :: lget Y 147 :: lget Y 148 :: lget Y 149 :: lget Y 150 :: lget Y 151 :: lget Y 152 :: lget Y 153 :: lget Y 154 :: lget Y 155 :: lget Y 156 :: lget Y 157 :: lget Y 158 :: lget Y 159 :: lget Y 160 :: lget Y 161 :: lget Y 162 :: lget Y 163 :: lget Y 164 :: [])) (4 * n)
   ⟨0, [_,_,_,_,_,_,_,_,_,_,_,_,_,_,_,_,_,_,_,_,_,_,_,_,_,_,_,_,_,_,_,_,_,_,_,_,_,_,_,_,_,_,_,_,_,_,_,_,_,_,_,_,_,_,_,_,_,_,_,_,_,_,_,_,_,_,_,_,_,_,_,_,_,_,_,_,_,_,_,_,_,_,_,_,_,_,_,_,_,_,_,_,_,_,_,_,_,_,_,_,_,_,_,_,_,_,_,_,_,_,_,_,_,_,_,_,_,_,_,_,_,_,_,_,_,_,_,_,_,_,_,_,_,_,_,_,_,_,_,_,_,_,_,_,_,_,_,_,_,_,_,_,_,_,_,_,_,_,_,_,_,_,_,_,_], rfl, Nat.zero_le _, Keeps.refl _, Nat.le_add_right _ _, rfl, rfl⟩ ?_
 rintro q T M H9 ⟨i, Y, hq1, hi, k9, n9, rfl, rfl⟩
 have k09 := k08.trans k9
 have b9 := b8.keep (by omega) k9
 have h89 := k9.nx
 have hky9 := hky.keep k09
 have hys9 := hky9.sl
 have hs9 := hs8.frame k9.nx fun b hb => k9.get b (hs8.old b hb)
 have hss9 := hs9.sl
 have hab0 := freeL_len m n l i
 generalize hat : (freeL m n l i).length = at_ at hab0 ⊢
 have hab : at_ ≤ 64 := by omega
 have n9b : H9.next ≤ H.next + 30000000000 := Nat.le_trans n9 (bndH hi (by omega) n8')
 repeat (first | apply qR | apply qS)
 refine wops_cons (wop_cmp rfl rfl rfl rfl rfl (fun h => ?_) (fun h => ?_))
 rotate_left
 · have h : ¬ ((i : Int) < (4 * n : Nat)) := of_decide_eq_false h
   have ei : i = 4 * n := by omega
   have ea : at_ = fr.length := by rw [← hat, hfr, ei]
   repeat (first | apply qN | refine qM rfl rfl ?_ | refine zq5 rfl rfl rfl rfl rfl ‹_› ?_ | refine qF rfl ?_ | apply qR | apply qS | apply qE)
   refine wops_cons (wop_bin (op := .eql) (v := .bool true) rfl rfl rfl rfl (by simp [binI, ea]) ?_)
   repeat (first | apply qN | refine qM rfl rfl ?_)
   refine wp_ret ?_
   exact ⟨_, _, rfl, hk _⟩
 have hi' : i < 4 * n := by have h : (i : Int) < (4 * n : Nat) := of_decide_eq_true h; omega
 clear h
 have hfa := freeL_at (m := m) (n := n) (l := l) hi'
 have hfl2 := fun h => freeL_lt (m := m) (n := n) (l := l) hi' h
 rw [← hfr, hat] at hfa hfl2
 repeat (first | apply qN | refine qM rfl rfl ?_ | refine zq5 rfl rfl rfl rfl rfl ‹_› ?_ | refine qT rfl ?_ | apply qR | apply qS | apply qK | apply qB)
 refine wp_loop (fun q T M H' => ∃ (j : Nat) (Y : List AV), q = l.length - j ∧ j ≤ l.length ∧ H' = H9 ∧ M = [] ∧ T = (lget Y 0 :: .v yv :: .ptr H.next 0 :: lget Y 1 :: lget Y 2 :: lget Y 3 :: lget Y 4 :: lget Y 5 :: lget Y 6 :: lget Y 7 :: s :: lget Y 8 :: iv (at_ : Nat) :: iv (i : Nat) :: .v (.bool (decide ((i : Int) ∈ l.take j))) :: lget Y 9 :: lget Y 10 :: lget Y 11 :: lget Y 12 :: lget Y 13 :: lget Y 14 :: lget Y 15 :: lget Y 16 :: lget Y 17 :: lget Y 18 :: lget Y 19 :: lget Y 20 :: lget Y 21 :: lget Y 22 :: lget Y 23 :: lget Y 24 :: lget Y 25 :: lget Y 26 :: lget Y 27 :: lget Y 28 :: lget Y 29 :: lget Y 30 :: lget Y 31 :: lget Y 32 :: lget Y 33 :: lget Y 34 :: lget Y 35 :: lget Y 36 :: lget Y 37 :: lget Y 38 :: lget Y 39 :: lget Y 40 :: lget Y 41 :: lget Y 42 :: lget Y 43 :: lget Y 44 :: lget Y 45 :: lget Y 46 :: lget Y 47 :: lget Y 48 :: lget Y 49 :: lget Y 50 :: lget Y 51 :: lget Y 52 :: lget Y 53 :: lget Y 54 :: lget Y 55 :: lget Y 56 :: lget Y 57 :: lget Y 58 :: lget Y 59 :: lget Y 60 :: lget Y 61 :: lget Y 62 :: lget Y 63 :: lget Y 64 :: lget Y 65 :: lget Y 66 :: lget Y 67 :: lget Y 68 :: lget Y 69 :: lget Y 70 :: lget Y 71 :: lget Y 72 :: lget Y 73 :: lget Y 74 :: lget Y 75 :: lget Y 76 :: lget Y 77 :: lget Y 78 :: lget Y 79 :: lget Y 80 :: lget Y 81 :: lget Y 82 :: lget Y 83 :: lget Y 84 :: lget Y 85 :: lget Y 86 :: lget Y 87 :: lget Y 88 :: lget Y 89 :: lget Y 90 :: lget Y 91 :: lget Y 92 :: lget Y 93 :: lget Y 94 :: lget Y 95 :: lget Y 96 :: lget Y 97 :: lget Y 98 :: lget Y 99 :: lget Y 100 :: lget Y 101 :: lget Y 102 :: lget Y 103 :: lget Y 104 :: lget Y 105 :: lget Y 106 :: lget Y 107 :: lget Y 108 :: iv (4 * n : Nat) :: iv (i : Nat) :: lget Y 109 :: lget Y 110 :: .v yv :: iv (l.length : Nat) :: iv (j : Nat) :: lget Y 111 :: lget Y 112 :: lget Y 113 :: lget Y 114 :: lget Y 115 :: lget Y 116 :: lget Y 117 :: lget Y 118 :: lget Y 119 :: lget Y 120 :: lget Y 121 :: lget Y 122 :: lget Y 123 :: lget Y 124 :: lget Y 125 :: lget Y 126 :: lget Y 127 :: lget Y 128 :: lget Y 129 :: lget Y 130 :: lget Y 131 :: lget Y 132 :: lget Y 133 :: lget Y 134 :: lget Y 135 :: lget Y 136 :: lget Y 137 :: lget Y 138 :: lget Y 139 :: lget Y 140 :: lget Y 141 :: lget Y 142 :: lget Y 143 :: lget Y 144 :: lget Y 145 :: lget Y 146 :: lget Y 147 :: lget Y 148 :: lget Y 149 :: lget Y 150 :: lget Y 151 :: lget Y 152 :: lget Y 153 :: lget Y 154 :: lget Y 155 :: lget Y 156 :: lget Y 157 :: lget Y 158 :: lget Y 159 :: [])) l.length
   ⟨0, [_,_,_,_,_,_,_,_,_,_,_,_,_,_,_,_,_,_,_,_,_,_,_,_,_,_,_,_,_,_,_,_,_,_,_,_,_,_,_,_,_,_,_,_,_,_,_,_,_,_,_,_,_,_,_,_,_,_,_,_,_,_,_,_,_,_,_,_,_,_,_,_,_,_,_,_,_,_,_,_,_,_,_,_,_,_,_,_,_,_,_,_,_,_,_,_,_,_,_,_,_,_,_,_,_,_,_,_,_,_,_,_,_,_,_,_,_,_,_,_,_,_,_,_,_,_,_,_,_,_,_,_,_,_,_,_,_,_,_,_,_,_,_,_,_,_,_,_,_,_,_,_,_,_,_,_,_,_,_,_], rfl, Nat.zero_le _, rfl, rfl, by rw [show decide ((i : Int) ∈ l.take 0) = false by simp]; rfl⟩ ?_
 rintro q T M H9' ⟨j, Y, hq2, hj, rfl, rfl, rfl⟩
 repeat (first | apply qR | apply qS)
 refine wops_cons (wop_cmp rfl rfl rfl rfl rfl (fun h => ?_) (fun h => ?_))
 · have hj' : j < l.length := by have h : (j : Int) < (l.length : Nat) := of_decide_eq_true h; omega
   clear h
   obtain ⟨z, hz⟩ := l_some hj'
   have htk : l.take (j + 1) = l.take j ++ [z] := by rw [List.take_add_one, hz]; rfl
   repeat (first | apply qN | refine qT rfl ?_ | apply qR | apply qS | apply qK | apply qB)
   refine wops_cons (o_indexI rfl rfl hys9 rfl hz fun pp hpp => ?_)
   repeat (first | apply qN | refine qM rfl rfl ?_ | refine zq6 rfl rfl ‹_› ?_ | apply qR)
   refine wops_split 4 ?_
   refine WOps.mono (K := fun T' H' => H9' = H' ∧ ∃ (Y : List AV), T' = (lget Y 0 :: .v yv :: .ptr H.next 0 :: lget Y 1 :: lget Y 2 :: lget Y 3 :: lget Y 4 :: lget Y 5 :: lget Y 6 :: lget Y 7 :: s :: lget Y 8 :: iv (at_ : Nat) :: iv (i : Nat) :: .v (.bool (decide ((i : Int) ∈ l.take j))) :: lget Y 9 :: lget Y 10 :: lget Y 11 :: lget Y 12 :: lget Y 13 :: lget Y 14 :: lget Y 15 :: lget Y 16 :: lget Y 17 :: lget Y 18 :: lget Y 19 :: lget Y 20 :: lget Y 21 :: lget Y 22 :: lget Y 23 :: lget Y 24 :: lget Y 25 :: lget Y 26 :: lget Y 27 :: lget Y 28 :: lget Y 29 :: lget Y 30 :: lget Y 31 :: lget Y 32 :: lget Y 33 :: lget Y 34 :: lget Y 35 :: lget Y 36 :: lget Y 37 :: lget Y 38 :: lget Y 39 :: lget Y 40 :: lget Y 41 :: lget Y 42 :: lget Y 43 :: lget Y 44 :: lget Y 45 :: lget Y 46 :: lget Y 47 :: lget Y 48 :: lget Y 49 :: lget Y 50 :: lget Y 51 :: lget Y 52 :: lget Y 53 :: lget Y 54 :: lget Y 55 :: lget Y 56 :: lget Y 57 :: lget Y 58 :: lget Y 59 :: lget Y 60 :: lget Y 61 :: lget Y 62 :: lget Y 63 :: lget Y 64 :: lget Y 65 :: lget Y 66 :: lget Y 67 :: lget Y 68 :: lget Y 69 :: lget Y 70 :: lget Y 71 :: lget Y 72 :: lget Y 73 :: lget Y 74 :: lget Y 75 :: lget Y 76 :: lget Y 77 :: lget Y 78 :: lget Y 79 :: lget Y 80 :: lget Y 81 :: lget Y 82 :: lget Y 83 :: lget Y 84 :: lget Y 85 :: lget Y 86 :: lget Y 87 :: lget Y 88 :: lget Y 89 :: lget Y 90 :: lget Y 91 :: lget Y 92 :: lget Y 93 :: lget Y 94 :: lget Y 95 :: lget Y 96 :: lget Y 97 :: lget Y 98 :: lget Y 99 :: lget Y 100 :: lget Y 101 :: lget Y 102 :: lget Y 103 :: lget Y 104 :: lget Y 105 :: lget Y 106 :: lget Y 107 :: lget Y 108 :: iv (4 * n : Nat) :: iv (i : Nat) :: lget Y 109 :: lget Y 110 :: .v yv :: iv (l.length : Nat) :: iv (j : Nat) :: lget Y 111 :: lget Y 112 :: lget Y 113 :: lget Y 114 :: lget Y 115 :: lget Y 116 :: lget Y 117 :: lget Y 118 :: .v (.bool (decide ((i : Int) ∈ l.take (j + 1)))) :: lget Y 119 :: lget Y 120 :: lget Y 121 :: lget Y 122 :: lget Y 123 :: lget Y 124 :: lget Y 125 :: lget Y 126 :: lget Y 127 :: lget Y 128 :: lget Y 129 :: lget Y 130 :: lget Y 131 :: lget Y 132 :: lget Y 133 :: lget Y 134 :: lget Y 135 :: lget Y 136 :: lget Y 137 :: lget Y 138 :: lget Y 139 :: lget Y 140 :: lget Y 141 :: lget Y 142 :: lget Y 143 :: lget Y 144 :: lget Y 145 :: lget Y 146 :: lget Y 147 :: lget Y 148 :: lget Y 149 :: lget Y 150 :: lget Y 151 :: lget Y 152 :: lget Y 153 :: lget Y 154 :: lget Y 155 :: lget Y 156 :: lget Y 157 :: lget Y 158 :: [])) ?_ ?_
   · by_cases hin : (i : Int) ∈ l.take j
     · rw [decide_eq_true hin, decide_eq_true (show (i : Int) ∈ l.take (j + 1) by rw [htk]; exact List.mem_append_left _ hin)]
       repeat (first | apply qN | refine zq1 rfl rfl ?_ | refine zq7 rfl rfl rfl ?_)
       exact ⟨rfl, [_,_,_,_,_,_,_,_,_,_,_,_,_,_,_,_,_,_,_,_,_,_,_,_,_,_,_,_,_,_,_,_,_,_,_,_,_,_,_,_,_,_,_,_,_,_,_,_,_,_,_,_,_,_,_,_,_,_,_,_,_,_,_,_,_,_,_,_,_,_,_,_,_,_,_,_,_,_,_,_,_,_,_,_,_,_,_,_,_,_,_,_,_,_,_,_,_,_,_,_,_,_,_,_,_,_,_,_,_,_,_,_,_,_,_,_,_,_,_,_,_,_,_,_,_,_,_,_,_,_,_,_,_,_,_,_,_,_,_,_,_,_,_,_,_,_,_,_,_,_,_,_,_,_,_,_,_,_,_], rfl⟩
     · rw [decide_eq_false hin]
       repeat (first | refine qM rfl rfl ?_)
       refine wops_cons (wop_bin (op := .eql) (v := .bool (decide ((i : Int) ∈ l.take (j + 1)))) rfl rfl rfl rfl (by
         show some (Value.bool (decide (z = (i : Int)))) = _
         congr 2
         simp only [decide_eq_decide, htk, List.mem_append, List.mem_singleton]
         exact ⟨fun h => .inr h.symm, fun h => h.elim (fun h => absurd h hin) fun h => h.symm⟩) ?_)
       repeat (first | apply qN | refine zq7 rfl rfl rfl ?_)
       exact ⟨rfl, [_,_,_,_,_,_,_,_,_,_,_,_,_,_,_,_,_,_,_,_,_,_,_,_,_,_,_,_,_,_,_,_,_,_,_,_,_,_,_,_,_,_,_,_,_,_,_,_,_,_,_,_,_,_,_,_,_,_,_,_,_,_,_,_,_,_,_,_,_,_,_,_,_,_,_,_,_,_,_,_,_,_,_,_,_,_,_,_,_,_,_,_,_,_,_,_,_,_,_,_,_,_,_,_,_,_,_,_,_,_,_,_,_,_,_,_,_,_,_,_,_,_,_,_,_,_,_,_,_,_,_,_,_,_,_,_,_,_,_,_,_,_,_,_,_,_,_,_,_,_,_,_,_,_,_,_,_,_,_], rfl⟩
   rintro T' H'' ⟨rfl, Y, rfl⟩
   repeat (first | apply qN | refine qM rfl rfl ?_ | refine zq4 rfl rfl rfl rfl (inc (by omega)) ?_ | apply qR)
   exact ⟨l.length - (j + 1), by omega, j + 1, [_,_,_,_,_,_,_,_,_,_,_,_,_,_,_,_,_,_,_,_,_,_,_,_,_,_,_,_,_,_,_,_,_,_,_,_,_,_,_,_,_,_,_,_,_,_,_,_,_,_,_,_,_,_,_,_,_,_,_,_,_,_,_,_,_,_,_,_,_,_,_,_,_,_,_,_,_,_,_,_,_,_,_,_,_,_,_,_,_,_,_,_,_,_,_,_,_,_,_,_,_,_,_,_,_,_,_,_,_,_,_,_,_,_,_,_,_,_,_,_,_,_,_,_,_,_,_,_,_,_,_,_,_,_,_,_,_,_,_,_,_,_,_,_,_,_,_,_,_,_,_,_,_,_,_,_,_,_,_,_], rfl, by omega, rfl, rfl, rfl⟩
 have ej : j = l.length := by have h : ¬ ((j : Int) < (l.length : Nat)) := of_decide_eq_false h; omega
 clear h
 subst ej
 rw [List.take_length]
 repeat (first | apply qN | refine qM rfl rfl ?_ | refine zq5 rfl rfl rfl rfl rfl ‹_› ?_ | refine qF rfl ?_ | apply qR | apply qS | apply qE)
 refine wops_split 9 ?_
 refine WOps.mono (K := fun T' H' => H9' = H' ∧ ∃ (Y : List AV) (c : Bool), T' = (lget Y 0 :: .v yv :: .ptr H.next 0 :: lget Y 1 :: lget Y 2 :: lget Y 3 :: lget Y 4 :: lget Y 5 :: lget Y 6 :: lget Y 7 :: s :: lget Y 8 :: iv (at_ : Nat) :: iv (i : Nat) :: .v (.bool (decide ((i : Int) ∈ l))) :: lget Y 9 :: lget Y 10 :: lget Y 11 :: lget Y 12 :: lget Y 13 :: lget Y 14 :: lget Y 15 :: lget Y 16 :: lget Y 17 :: lget Y 18 :: lget Y 19 :: lget Y 20 :: lget Y 21 :: lget Y 22 :: lget Y 23 :: lget Y 24 :: lget Y 25 :: lget Y 26 :: lget Y 27 :: lget Y 28 :: lget Y 29 :: lget Y 30 :: lget Y 31 :: lget Y 32 :: lget Y 33 :: lget Y 34 :: lget Y 35 :: lget Y 36 :: lget Y 37 :: lget Y 38 :: lget Y 39 :: lget Y 40 :: lget Y 41 :: lget Y 42 :: lget Y 43 :: lget Y 44 :: lget Y 45 :: lget Y 46 :: lget Y 47 :: lget Y 48 :: lget Y 49 :: lget Y 50 :: lget Y 51 :: lget Y 52 :: lget Y 53 :: lget Y 54 :: lget Y 55 :: lget Y 56 :: lget Y 57 :: lget Y 58 :: lget Y 59 :: lget Y 60 :: lget Y 61 :: lget Y 62 :: lget Y 63 :: lget Y 64 :: lget Y 65 :: lget Y 66 :: lget Y 67 :: lget Y 68 :: lget Y 69 :: lget Y 70 :: lget Y 71 :: lget Y 72 :: lget Y 73 :: lget Y 74 :: lget Y 75 :: lget Y 76 :: lget Y 77 :: lget Y 78 :: lget Y 79 :: lget Y 80 :: lget Y 81 :: lget Y 82 :: lget Y 83 :: lget Y 84 :: lget Y 85 :: lget Y 86 :: lget Y 87 :: lget Y 88 :: lget Y 89 :: lget Y 90 :: lget Y 91 :: lget Y 92 :: lget Y 93 :: lget Y 94 :: lget Y 95 :: lget Y 96 :: lget Y 97 :: lget Y 98 :: lget Y 99 :: lget Y 100 :: lget Y 101 :: lget Y 102 :: lget Y 103 :: lget Y 104 :: lget Y 105 :: lget Y 106 :: lget Y 107 :: lget Y 108 :: iv (4 * n : Nat) :: iv (i : Nat) :: lget Y 109 :: lget Y 110 :: lget Y 111 :: lget Y 112 :: lget Y 113 :: lget Y 114 :: lget Y 115 :: lget Y 116 :: lget Y 117 :: lget Y 118 :: lget Y 119 :: lget Y 120 :: lget Y 121 :: lget Y 122 :: lget Y 123 :: lget Y 124 :: lget Y 125 :: lget Y 126 :: lget Y 127 :: lget Y 128 :: lget Y 129 :: lget Y 130 :: lget Y 131 :: lget Y 132 :: lget Y 133 :: lget Y 134 :: .v (.bool c) :: lget Y 135 :: lget Y 136 :: lget Y 137 :: lget Y 138 :: lget Y 139 :: lget Y 140 :: lget Y 141 :: lget Y 142 :: lget Y 143 :: lget Y 144 :: lget Y 145 :: lget Y 146 :: lget Y 147 :: lget Y 148 :: lget Y 149 :: lget Y 150 :: lget Y 151 :: lget Y 152 :: lget Y 153 :: lget Y 154 :: lget Y 155 :: lget Y 156 :: lget Y 157 :: lget Y 158 :: lget Y 159 :: lget Y 160 :: lget Y 161 :: []) ∧ (c = true ↔ (i : Int) ∉ l ∧ never m (l ++ [(i : Int)]) n)) ?_ ?_
 · by_cases ha : at_ < fr.length
   · refine wops_cons (wop_bin (op := .lss) (v := .bool true) rfl rfl rfl rfl (by show some (Value.bool (decide ((at_ : Int) < (fr.length : Int)))) = _; rw [decide_eq_true (by omega)]) ?_)
     obtain ⟨z, hz⟩ := l_some ha
     repeat (first | refine qM rfl rfl ?_)
     refine wops_cons (o_indexI rfl rfl hss9 rfl hz fun pp hpp => ?_)
     repeat (first | refine qM rfl rfl ?_ | refine zq6 rfl rfl ‹_› ?_)
     refine wops_cons (wop_bin (op := .eql) (v := .bool (decide (z = (i : Int)))) rfl rfl rfl rfl rfl ?_)
     repeat (first | apply qN | refine zq7 rfl rfl rfl ?_)
     refine ⟨rfl, [_,_,_,_,_,_,_,_,_,_,_,_,_,_,_,_,_,_,_,_,_,_,_,_,_,_,_,_,_,_,_,_,_,_,_,_,_,_,_,_,_,_,_,_,_,_,_,_,_,_,_,_,_,_,_,_,_,_,_,_,_,_,_,_,_,_,_,_,_,_,_,_,_,_,_,_,_,_,_,_,_,_,_,_,_,_,_,_,_,_,_,_,_,_,_,_,_,_,_,_,_,_,_,_,_,_,_,_,_,_,_,_,_,_,_,_,_,_,_,_,_,_,_,_,_,_,_,_,_,_,_,_,_,_,_,_,_,_,_,_,_,_,_,_,_,_,_,_,_,_,_,_,_,_,_,_,_,_,_,_,_,_], _, rfl, ?_⟩
     rw [decide_eq_true_iff]
     constructor
     · intro h
       exact Classical.byContradiction fun h2 => hfa.2 h2 z hz h
     · intro h
       have := hfa.1 h
       rw [hz] at this
       exact Option.some.inj this
   · refine wops_cons (wop_bin (op := .lss) (v := .bool false) rfl rfl rfl rfl (by show some (Value.bool (decide ((at_ : Int) < (fr.length : Int)))) = _; rw [decide_eq_false (by omega)]) ?_)
     repeat (first | apply qN | refine zq1 rfl rfl ?_ | refine qM rfl rfl ?_ | refine zq7 rfl rfl rfl ?_)
     exact ⟨rfl, [_,_,_,_,_,_,_,_,_,_,_,_,_,_,_,_,_,_,_,_,_,_,_,_,_,_,_,_,_,_,_,_,_,_,_,_,_,_,_,_,_,_,_,_,_,_,_,_,_,_,_,_,_,_,_,_,_,_,_,_,_,_,_,_,_,_,_,_,_,_,_,_,_,_,_,_,_,_,_,_,_,_,_,_,_,_,_,_,_,_,_,_,_,_,_,_,_,_,_,_,_,_,_,_,_,_,_,_,_,_,_,_,_,_,_,_,_,_,_,_,_,_,_,_,_,_,_,_,_,_,_,_,_,_,_,_,_,_,_,_,_,_,_,_,_,_,_,_,_,_,_,_,_,_,_,_,_,_,_,_,_,_], false, rfl, ⟨(fun h => by cases h), fun h => absurd (hfl2 h) ha⟩⟩
 rintro T' H10 ⟨rfl, Y, c, rfl, hc⟩
 have hat2 : (freeL m n l (i + 1)).length = if c = true then at_ + 1 else at_ := by
   rw [freeL_succ]
   by_cases h : (i : Int) ∉ l ∧ never m (l ++ [(i : Int)]) n
   · rw [if_pos h, if_pos (hc.2 h), List.length_append, hat]; rfl
   · rw [if_neg h, if_neg (fun e => h (hc.1 e)), List.append_nil, hat]
 repeat (first | apply qN | refine qM rfl rfl ?_ | apply qR | apply qS)
 refine Wp.mono (Q := fun x' T' M' H'' => x' = .normal ∧ M' = [] ∧ H9' = H'' ∧ ∃ (Y : List AV), T' = (lget Y 0 :: .v yv :: .ptr H.next 0 :: lget Y 1 :: lget Y 2 :: lget Y 3 :: lget Y 4 :: lget Y 5 :: lget Y 6 :: lget Y 7 :: s :: lget Y 8 :: iv ((freeL m n l (i + 1)).length : Nat) :: iv (i : Nat) :: .v (.bool (decide ((i : Int) ∈ l))) :: lget Y 9 :: lget Y 10 :: .v (.bool c) :: lget Y 11 :: lget Y 12 :: lget Y 13 :: lget Y 14 :: lget Y 15 :: lget Y 16 :: lget Y 17 :: lget Y 18 :: lget Y 19 :: lget Y 20 :: lget Y 21 :: lget Y 22 :: lget Y 23 :: lget Y 24 :: lget Y 25 :: lget Y 26 :: lget Y 27 :: lget Y 28 :: lget Y 29 :: lget Y 30 :: lget Y 31 :: lget Y 32 :: lget Y 33 :: lget Y 34 :: lget Y 35 :: lget Y 36 :: lget Y 37 :: lget Y 38 :: lget Y 39 :: lget Y 40 :: lget Y 41 :: lget Y 42 :: lget Y 43 :: lget Y 44 :: lget Y 45 :: lget Y 46 :: lget Y 47 :: lget Y 48 :: lget Y 49 :: lget Y 50 :: lget Y 51 :: lget Y 52 :: lget Y 53 :: lget Y 54 :: lget Y 55 :: lget Y 56 :: lget Y 57 :: lget Y 58 :: lget Y 59 :: lget Y 60 :: lget Y 61 :: lget Y 62 :: lget Y 63 :: lget Y 64 :: lget Y 65 :: lget Y 66 :: lget Y 67 :: lget Y 68 :: lget Y 69 :: lget Y 70 :: lget Y 71 :: lget Y 72 :: lget Y 73 :: lget Y 74 :: lget Y 75 :: lget Y 76 :: lget Y 77 :: lget Y 78 :: lget Y 79 :: lget Y 80 :: lget Y 81 :: lget Y 82 :: lget Y 83 :: lget Y 84 :: lget Y 85 :: lget Y 86 :: lget Y 87 :: lget Y 88 :: lget Y 89 :: lget Y 90 :: lget Y 91 :: lget Y 92 :: lget Y 93 :: lget Y 94 :: lget Y 95 :: lget Y 96 :: lget Y 97 :: lget Y 98 :: lget Y 99 :: lget Y 100 :: lget Y 101 :: lget Y 102 :: lget Y 103 :: lget Y 104 :: lget Y 105 :: lget Y 106 :: lget Y 107 :: iv (4 * n : Nat) :: iv (i : Nat) :: lget Y 108 :: lget Y 109 :: lget Y 110 :: lget Y 111 :: lget Y 112 :: lget Y 113 :: lget Y 114 :: lget Y 115 :: lget Y 116 :: lget Y 117 :: lget Y 118 :: lget Y 119 :: lget Y 120 :: lget Y 121 :: lget Y 122 :: lget Y 123 :: lget Y 124 :: lget Y 125 :: lget Y 126 :: lget Y 127 :: lget Y 128 :: lget Y 129 :: lget Y 130 :: lget Y 131 :: lget Y 132 :: lget Y 133 :: lget Y 134 :: lget Y 135 :: lget Y 136 :: lget Y 137 :: lget Y 138 :: lget Y 139 :: lget Y 140 :: lget Y 141 :: lget Y 142 :: lget Y 143 :: lget Y 144 :: lget Y 145 :: lget Y 146 :: lget Y 147 :: lget Y 148 :: lget Y 149 :: lget Y 150 :: lget Y 151 :: lget Y 152 :: lget Y 153 :: lget Y 154 :: lget Y 155 :: lget Y 156 :: lget Y 157 :: lget Y 158 :: lget Y 159 :: lget Y 160 :: lget Y 161 :: [])) ?_ ?_
 · cases c with
   | true =>
     refine wp_condT rfl ?_
     repeat (first | apply qN | refine qM rfl rfl ?_ | refine zq4 rfl rfl rfl rfl (inc (by omega)) ?_ | apply qR)
     exact ⟨rfl, rfl, rfl, [_,_,_,_,_,_,_,_,_,_,_,_,_,_,_,_,_,_,_,_,_,_,_,_,_,_,_,_,_,_,_,_,_,_,_,_,_,_,_,_,_,_,_,_,_,_,_,_,_,_,_,_,_,_,_,_,_,_,_,_,_,_,_,_,_,_,_,_,_,_,_,_,_,_,_,_,_,_,_,_,_,_,_,_,_,_,_,_,_,_,_,_,_,_,_,_,_,_,_,_,_,_,_,_,_,_,_,_,_,_,_,_,_,_,_,_,_,_,_,_,_,_,_,_,_,_,_,_,_,_,_,_,_,_,_,_,_,_,_,_,_,_,_,_,_,_,_,_,_,_,_,_,_,_,_,_,_,_,_,_,_,_], by rw [hat2]; rfl⟩
   | false =>
     refine wp_condF rfl ?_
     repeat (first | apply qK)
     exact ⟨rfl, rfl, rfl, [_,_,_,_,_,_,_,_,_,_,_,_,_,_,_,_,_,_,_,_,_,_,_,_,_,_,_,_,_,_,_,_,_,_,_,_,_,_,_,_,_,_,_,_,_,_,_,_,_,_,_,_,_,_,_,_,_,_,_,_,_,_,_,_,_,_,_,_,_,_,_,_,_,_,_,_,_,_,_,_,_,_,_,_,_,_,_,_,_,_,_,_,_,_,_,_,_,_,_,_,_,_,_,_,_,_,_,_,_,_,_,_,_,_,_,_,_,_,_,_,_,_,_,_,_,_,_,_,_,_,_,_,_,_,_,_,_,_,_,_,_,_,_,_,_,_,_,_,_,_,_,_,_,_,_,_,_,_,_,_,_,_], by rw [hat2]; rfl⟩
 rintro x' T' M' H10 ⟨rfl, rfl, rfl, Y3, rfl⟩
 show Wp _ _ _ _ _ _ _ _
 have hsb : 0 ≤ (i : Int) ∧ (i : Int) < ((4 * n : Nat) : Int) := ⟨by omega, by omega⟩
 generalize hat3 : (freeL m n l (i + 1)).length = at2 at hat2
 have r9 : H9'.next < 2 ^ 39 := by omega
 by_cases hin : (i : Int) ∈ l
 · have ec : c = false := by
     cases c with
     | false => rfl
     | true => exact absurd hin (hc.1 rfl).1
   subst ec
   rw [decide_eq_true hin]
   repeat (first | apply qN | refine qM rfl rfl ?_ | refine zq7 rfl rfl rfl ?_ | refine qF rfl ?_ | apply qR | apply qS | apply qK)
   refine Wp.mono (Q := fun x' T' M' H'' => x' = .normal ∧ M' = [] ∧ H'' = H9' ∧ ∃ (Y : List AV), T' = (lget Y 0 :: .v yv :: .ptr H.next 0 :: lget Y 1 :: lget Y 2 :: lget Y 3 :: lget Y 4 :: lget Y 5 :: lget Y 6 :: lget Y 7 :: s :: lget Y 8 :: iv (at2 : Nat) :: lget Y 9 :: lget Y 10 :: lget Y 11 :: lget Y 12 :: lget Y 13 :: lget Y 14 :: lget Y 15 :: lget Y 16 :: lget Y 17 :: lget Y 18 :: lget Y 19 :: lget Y 20 :: lget Y 21 :: lget Y 22 :: lget Y 23 :: lget Y 24 :: lget Y 25 :: lget Y 26 :: lget Y 27 :: lget Y 28 :: lget Y 29 :: lget Y 30 :: lget Y 31 :: lget Y 32 :: lget Y 33 :: lget Y 34 :: lget Y 35 :: lget Y 36 :: lget Y 37 :: lget Y 38 :: lget Y 39 :: lget Y 40 :: lget Y 41 :: lget Y 42 :: lget Y 43 :: lget Y 44 :: lget Y 45 :: lget Y 46 :: lget Y 47 :: lget Y 48 :: lget Y 49 :: lget Y 50 :: lget Y 51 :: lget Y 52 :: lget Y 53 :: lget Y 54 :: lget Y 55 :: lget Y 56 :: lget Y 57 :: lget Y 58 :: lget Y 59 :: lget Y 60 :: lget Y 61 :: lget Y 62 :: lget Y 63 :: lget Y 64 :: lget Y 65 :: lget Y 66 :: lget Y 67 :: lget Y 68 :: lget Y 69 :: lget Y 70 :: lget Y 71 :: lget Y 72 :: lget Y 73 :: lget Y 74 :: lget Y 75 :: lget Y 76 :: lget Y 77 :: lget Y 78 :: lget Y 79 :: lget Y 80 :: lget Y 81 :: lget Y 82 :: lget Y 83 :: lget Y 84 :: lget Y 85 :: lget Y 86 :: lget Y 87 :: lget Y 88 :: lget Y 89 :: lget Y 90 :: lget Y 91 :: lget Y 92 :: lget Y 93 :: lget Y 94 :: lget Y 95 :: lget Y 96 :: lget Y 97 :: lget Y 98 :: lget Y 99 :: lget Y 100 :: lget Y 101 :: lget Y 102 :: lget Y 103 :: lget Y 104 :: lget Y 105 :: lget Y 106 :: lget Y 107 :: lget Y 108 :: lget Y 109 :: lget Y 110 :: iv (4 * n : Nat) :: iv (i : Nat) :: lget Y 111 :: lget Y 112 :: lget Y 113 :: lget Y 114 :: lget Y 115 :: lget Y 116 :: lget Y 117 :: lget Y 118 :: lget Y 119 :: lget Y 120 :: lget Y 121 :: lget Y 122 :: lget Y 123 :: lget Y 124 :: lget Y 125 :: lget Y 126 :: lget Y 127 :: lget Y 128 :: lget Y 129 :: lget Y 130 :: lget Y 131 :: lget Y 132 :: lget Y 133 :: lget Y 134 :: lget Y 135 :: lget Y 136 :: lget Y 137 :: lget Y 138 :: lget Y 139 :: lget Y 140 :: lget Y 141 :: lget Y 142 :: lget Y 143 :: lget Y 144 :: lget Y 145 :: lget Y 146 :: .v (.bool false) :: lget Y 147 :: lget Y 148 :: lget Y 149 :: lget Y 150 :: lget Y 151 :: lget Y 152 :: lget Y 153 :: lget Y 154 :: lget Y 155 :: lget Y 156 :: lget Y 157 :: .v (.bool false) :: lget Y 158 :: lget Y 159 :: lget Y 160 :: lget Y 161 :: lget Y 162 :: [])) (wp_drawK rfl ?_) ?_
   · repeat (first | refine k_move rfl rfl rfl ?_)
     refine k_not rfl rfl rfl rfl ?_
     repeat (first | refine k_skip rfl rfl ?_ | refine k_move rfl rfl rfl ?_)
     refine k_loudSkip rfl rfl (Keeps.refl _) ?_
     refine k_loudSkip rfl rfl (Keeps.refl _) ?_
     refine k_alcSkip rfl rfl ?_
     refine k_loudSkip rfl rfl (Keeps.refl _) ?_
     refine k_loudSkip rfl rfl (Keeps.refl _) ?_
     repeat (first | refine k_nil ?_ | refine k_skip rfl rfl ?_ | refine k_pick rfl rfl rfl rfl ?_)
     exact ⟨rfl, rfl, rfl, [_,_,_,_,_,_,_,_,_,_,_,_,_,_,_,_,_,_,_,_,_,_,_,_,_,_,_,_,_,_,_,_,_,_,_,_,_,_,_,_,_,_,_,_,_,_,_,_,_,_,_,_,_,_,_,_,_,_,_,_,_,_,_,_,_,_,_,_,_,_,_,_,_,_,_,_,_,_,_,_,_,_,_,_,_,_,_,_,_,_,_,_,_,_,_,_,_,_,_,_,_,_,_,_,_,_,_,_,_,_,_,_,_,_,_,_,_,_,_,_,_,_,_,_,_,_,_,_,_,_,_,_,_,_,_,_,_,_,_,_,_,_,_,_,_,_,_,_,_,_,_,_,_,_,_,_,_,_,_,_,_,_,_], rfl⟩
   rintro x' T' M' H'' ⟨rfl, rfl, rfl, Y4, rfl⟩
   repeat (first | apply qN | refine qM rfl rfl ?_ | refine zq4 rfl rfl rfl rfl (inc (by omega)) ?_ | refine qF rfl ?_ | apply qR | apply qK)
   exact ⟨4 * n - (i + 1), by omega, i + 1, [_,_,_,_,_,_,_,_,_,_,_,_,_,_,_,_,_,_,_,_,_,_,_,_,_,_,_,_,_,_,_,_,_,_,_,_,_,_,_,_,_,_,_,_,_,_,_,_,_,_,_,_,_,_,_,_,_,_,_,_,_,_,_,_,_,_,_,_,_,_,_,_,_,_,_,_,_,_,_,_,_,_,_,_,_,_,_,_,_,_,_,_,_,_,_,_,_,_,_,_,_,_,_,_,_,_,_,_,_,_,_,_,_,_,_,_,_,_,_,_,_,_,_,_,_,_,_,_,_,_,_,_,_,_,_,_,_,_,_,_,_,_,_,_,_,_,_,_,_,_,_,_,_,_,_,_,_,_,_,_,_,_,_,_,_], rfl, by omega, k9, Nat.le_trans n9 (Nat.add_le_add_left (Nat.mul_le_mul_right _ (Nat.le_succ i)) _), rfl, by rw [hat3]; rfl⟩
 rw [decide_eq_false hin]
 repeat (first | apply qN | refine zq1 rfl rfl ?_ | refine qM rfl rfl ?_ | refine zq7 rfl rfl rfl ?_ | refine qF rfl ?_ | apply qR | apply qS | apply qK)
 refine Wp.mono (Q := fun x' T' M' H'' => x' = .normal ∧ M' = [] ∧ Keeps H9' H'' ∧ H''.next ≤ H9'.next + 900000 ∧ ∃ (Y : List AV), T' = (lget Y 0 :: .v yv :: .ptr H.next 0 :: lget Y 1 :: lget Y 2 :: lget Y 3 :: lget Y 4 :: lget Y 5 :: lget Y 6 :: lget Y 7 :: s :: lget Y 8 :: iv (at2 : Nat) :: lget Y 9 :: lget Y 10 :: lget Y 11 :: lget Y 12 :: lget Y 13 :: lget Y 14 :: lget Y 15 :: lget Y 16 :: lget Y 17 :: lget Y 18 :: lget Y 19 :: lget Y 20 :: lget Y 21 :: lget Y 22 :: lget Y 23 :: lget Y 24 :: lget Y 25 :: lget Y 26 :: lget Y 27 :: lget Y 28 :: lget Y 29 :: lget Y 30 :: lget Y 31 :: lget Y 32 :: lget Y 33 :: lget Y 34 :: lget Y 35 :: lget Y 36 :: lget Y 37 :: lget Y 38 :: lget Y 39 :: lget Y 40 :: lget Y 41 :: lget Y 42 :: lget Y 43 :: lget Y 44 :: lget Y 45 :: lget Y 46 :: lget Y 47 :: lget Y 48 :: lget Y 49 :: lget Y 50 :: lget Y 51 :: lget Y 52 :: lget Y 53 :: lget Y 54 :: lget Y 55 :: lget Y 56 :: lget Y 57 :: lget Y 58 :: lget Y 59 :: lget Y 60 :: lget Y 61 :: lget Y 62 :: lget Y 63 :: lget Y 64 :: lget Y 65 :: lget Y 66 :: lget Y 67 :: lget Y 68 :: lget Y 69 :: lget Y 70 :: lget Y 71 :: lget Y 72 :: lget Y 73 :: lget Y 74 :: lget Y 75 :: lget Y 76 :: lget Y 77 :: lget Y 78 :: lget Y 79 :: lget Y 80 :: lget Y 81 :: lget Y 82 :: lget Y 83 :: lget Y 84 :: lget Y 85 :: lget Y 86 :: lget Y 87 :: lget Y 88 :: lget Y 89 :: lget Y 90 :: lget Y 91 :: lget Y 92 :: lget Y 93 :: lget Y 94 :: lget Y 95 :: lget Y 96 :: lget Y 97 :: lget Y 98 :: lget Y 99 :: lget Y 100 :: lget Y 101 :: lget Y 102 :: lget Y 103 :: lget Y 104 :: lget Y 105 :: lget Y 106 :: lget Y 107 :: lget Y 108 :: lget Y 109 :: lget Y 110 :: iv (4 * n : Nat) :: iv (i : Nat) :: lget Y 111 :: lget Y 112 :: lget Y 113 :: lget Y 114 :: lget Y 115 :: lget Y 116 :: lget Y 117 :: lget Y 118 :: lget Y 119 :: lget Y 120 :: lget Y 121 :: lget Y 122 :: lget Y 123 :: lget Y 124 :: lget Y 125 :: lget Y 126 :: lget Y 127 :: lget Y 128 :: lget Y 129 :: lget Y 130 :: lget Y 131 :: lget Y 132 :: lget Y 133 :: lget Y 134 :: lget Y 135 :: lget Y 136 :: lget Y 137 :: lget Y 138 :: lget Y 139 :: lget Y 140 :: lget Y 141 :: lget Y 142 :: lget Y 143 :: lget Y 144 :: lget Y 145 :: lget Y 146 :: .v (.bool true) :: lget Y 147 :: lget Y 148 :: lget Y 149 :: lget Y 150 :: lget Y 151 :: lget Y 152 :: lget Y 153 :: lget Y 154 :: lget Y 155 :: lget Y 156 :: lget Y 157 :: .v (.bool false) :: lget Y 158 :: lget Y 159 :: lget Y 160 :: lget Y 161 :: lget Y 162 :: [])) (wp_drawK rfl ?_) ?_
 · have hB9 : ∀ b, (AV.ptr H.next 0).own = some b → Lk H9' b := b9.lk (by omega) (hkx k09)
   repeat (first | refine k_move rfl rfl rfl ?_)
   refine k_not rfl rfl rfl rfl ?_
   repeat (first | refine k_move rfl rfl rfl ?_ | refine k_load4 rfl rfl rfl rfl ‹_› ‹_› ?_)
   refine k_loud rfl rfl (o_build0 rfl rfl r9 ⟨(Keeps.refl H9').add _ r9, ?_⟩)
   refine WK.mem (fun H5 => Keeps H9' H5 ∧ H5.next = H9'.next + 1 ∧ H5.get H9'.next = some (.cells [] 3 0)) ⟨(Keeps.refl H9').add _ r9, rfl, get_add_eq r9⟩ ?_
   rintro H5 ⟨k5, n5, g5⟩
   refine k_loud rfl rfl (o_appendA (H0 := H9') (l := l) rfl rfl rfl rfl rfl (by omega) (by omega) rfl (by omega) g5 rfl (hky9.keep k5).sl (Nat.le_refl _) k5 fun r6 H6 hA6 hn6 k6 n6 _ => ⟨k6, ?_⟩)
   have r6' : H6.next < 2 ^ 39 := by omega
   refine k_build1 rfl rfl rfl rfl r6' ?_
   refine WK.mem (fun H7 => Keeps H9' H7 ∧ H7.next = H6.next + 1 ∧ Ap H7 r6 l ∧ H7.get H6.next = some (.cells [iv (i : Int)] 3 0)) ⟨k6.add _ r6', rfl, hA6.keep ((Keeps.refl H6).add _ r6'), get_add_eq r6'⟩ ?_
   rintro H7 ⟨k7, n7, hA7, g7⟩
   refine k_loud rfl rfl (o_append1A (H0 := H9') (l := l) (z := (i : Int)) rfl rfl rfl rfl rfl (by omega) (by omega) rfl g7 hA7 hn6 k7 fun r8 H11 hA11 hn11 k11 n11 _ => ⟨k11, ?_⟩)
   have hsn := hV.snoc hsb hin
   have hky11 := hA11.ky
   have k011 := k09.trans k11
   skip
   refine k_call rfl rfl rfl (fun b h => by cases h) (wop_callF rfl rfl rfl (fn := Tryz.f35) (by rfl) ?_)
   refine c35 hq H11 _ (.v xv) r8 m (l ++ [(i : Int)]) n _ rfl (hkx k011) (Old.v _) hky11.sl hky11.old hky11.cap hky11.lk hsn.good (by omega) _ (fun H12 k p k12 n12 f1 => ⟨k12.nx, k11.trans k12, ?_⟩) (fun H12 k12 n12 f1 => ⟨k12.nx, k11.trans k12, ?_⟩)
   · have ec : c = false := by
       cases c with
       | false => rfl
       | true => exact (mtF_not f1 ((hc.1 rfl).2 _)).elim
     subst ec
     skip
     refine k_bin (op := .eql) (v := .bool false) rfl rfl rfl rfl rfl rfl ?_
     skip
     refine k_boolNe rfl rfl rfl rfl rfl ?_
     repeat (first | refine k_nil ?_ | refine k_pick rfl rfl rfl rfl ?_)
     exact ⟨rfl, rfl, k11.trans k12, by omega, [_,_,_,_,_,_,_,_,_,_,_,_,_,_,_,_,_,_,_,_,_,_,_,_,_,_,_,_,_,_,_,_,_,_,_,_,_,_,_,_,_,_,_,_,_,_,_,_,_,_,_,_,_,_,_,_,_,_,_,_,_,_,_,_,_,_,_,_,_,_,_,_,_,_,_,_,_,_,_,_,_,_,_,_,_,_,_,_,_,_,_,_,_,_,_,_,_,_,_,_,_,_,_,_,_,_,_,_,_,_,_,_,_,_,_,_,_,_,_,_,_,_,_,_,_,_,_,_,_,_,_,_,_,_,_,_,_,_,_,_,_,_,_,_,_,_,_,_,_,_,_,_,_,_,_,_,_,_,_,_,_,_,_], rfl⟩
   · have ec : c = true := hc.2 ⟨hin, f1⟩
     subst ec
     skip
     refine k_bin (op := .eql) (v := .bool true) rfl rfl rfl rfl rfl rfl ?_
     skip
     refine k_boolNe rfl rfl rfl rfl rfl ?_
     repeat (first | refine k_nil ?_ | refine k_pick rfl rfl rfl rfl ?_)
     exact ⟨rfl, rfl, k11.trans k12, by omega, [_,_,_,_,_,_,_,_,_,_,_,_,_,_,_,_,_,_,_,_,_,_,_,_,_,_,_,_,_,_,_,_,_,_,_,_,_,_,_,_,_,_,_,_,_,_,_,_,_,_,_,_,_,_,_,_,_,_,_,_,_,_,_,_,_,_,_,_,_,_,_,_,_,_,_,_,_,_,_,_,_,_,_,_,_,_,_,_,_,_,_,_,_,_,_,_,_,_,_,_,_,_,_,_,_,_,_,_,_,_,_,_,_,_,_,_,_,_,_,_,_,_,_,_,_,_,_,_,_,_,_,_,_,_,_,_,_,_,_,_,_,_,_,_,_,_,_,_,_,_,_,_,_,_,_,_,_,_,_,_,_,_,_], rfl⟩
 rintro x' T' M' H11 ⟨rfl, rfl, k11, n11, Y4, rfl⟩
 repeat (first | apply qN | refine qM rfl rfl ?_ | refine zq4 rfl rfl rfl rfl (inc (by omega)) ?_ | refine qF rfl ?_ | apply qR | apply qK)
 exact ⟨4 * n - (i + 1), by omega, i + 1, [_,_,_,_,_,_,_,_,_,_,_,_,_,_,_,_,_,_,_,_,_,_,_,_,_,_,_,_,_,_,_,_,_,_,_,_,_,_,_,_,_,_,_,_,_,_,_,_,_,_,_,_,_,_,_,_,_,_,_,_,_,_,_,_,_,_,_,_,_,_,_,_,_,_,_,_,_,_,_,_,_,_,_,_,_,_,_,_,_,_,_,_,_,_,_,_,_,_,_,_,_,_,_,_,_,_,_,_,_,_,_,_,_,_,_,_,_,_,_,_,_,_,_,_,_,_,_,_,_,_,_,_,_,_,_,_,_,_,_,_,_,_,_,_,_,_,_,_,_,_,_,_,_,_,_,_,_,_,_,_,_,_,_,_,_], rfl, by omega, k9.trans k11, bndG n11 n9, rfl, by rw [hat3]; rfl⟩
end Go.Ev
