/- Part of an evaluator of calls that is proved sound, and of what it gives about this program. No condition of its own. -/
import Derived.Test.YtanaplokhjgfmaaGreatDoorEvEq
import Derived.Test.YtanaplokhjgfmaaGreatDoorEvEr
import Derived.Test.YtanaplokhjgfmaaGreatDoorEvEn
set_option linter.unusedVariables false
set_option linter.unusedSimpArgs false
set_option linter.unusedSectionVars false
set_option maxRecDepth 100000
set_option maxHeartbeats 8000000
namespace Go.Ev
open Go.Proofs
structure LwE (H : AH) (rb sb kb a b c : Nat) (r : Ru) (k : Tk) (x y : AV) (tk gp : List Int) : Prop where
 l1 : rb < H.next
 b1 : Bk H rb 23 r.cs
 l2 : sb < H.next
 b2 : Bk H sb 26 [x, y]
 l3 : kb < H.next
 b3 : Bk H kb 28 k.cs
 l4 : a < H.next
 b4 : Bk H a 29 r.cs
 l5 : b < H.next
 b5 : Bk H b 30 [x, y]
 l6 : c < H.next
 b6 : Bk H c 32 k.cs
 x : Ky H x tk
 y : Ky H y gp
theorem LwE.keep {H H' : AH} {rb sb kb a b c : Nat} {r : Ru} {k : Tk} {x y : AV} {tk gp : List Int} (h : LwE H rb sb kb a b c r k x y tk gp) (e : Keeps H H') : LwE H' rb sb kb a b c r k x y tk gp :=
 ⟨Nat.lt_of_lt_of_le h.l1 e.nx, h.b1.keep h.l1 e, Nat.lt_of_lt_of_le h.l2 e.nx, h.b2.keep h.l2 e, Nat.lt_of_lt_of_le h.l3 e.nx, h.b3.keep h.l3 e, Nat.lt_of_lt_of_le h.l4 e.nx, h.b4.keep h.l4 e, Nat.lt_of_lt_of_le h.l5 e.nx, h.b5.keep h.l5 e, Nat.lt_of_lt_of_le h.l6 e.nx, h.b6.keep h.l6 e, h.x.keep e, h.y.keep e⟩
theorem LwE.sb {H : AH} {rb sb kb a b c : Nat} {r : Ru} {k : Tk} {x y : AV} {tk gp : List Int} (h : LwE H rb sb kb a b c r k x y tk gp) : beqs [x, y] [x, y] = true := by simp [beqs, h.x.sl.beq, h.y.sl.beq]
def lgX (r : Ru) (tk gp : List Int) (k : Tk) : Int := if errE r tk gp k = 0 then lgE r tk gp k else 0
theorem ky_nil {H : AH} : Ky H (.v (.slice none 0 0)) [] := ⟨⟨rfl, .inl rfl⟩, Old.v _, Nat.le_refl _, fun b hb => by cases hb⟩
theorem nxtE_err {r : Ru} {tk gp : List Int} {k : Tk} (h : errE r tk gp k ≠ 0) : nxtE r tk gp k = errE r tk gp k := by unfold nxtE; rw [if_neg h]
variable {O : CallF} (hq : Quiet O)
include hq
theorem c12' (H : AH) (r : Ru) (rv : AV) (hrv : rv.cells = r.cs) (hr : H.next + 100 < 2 ^ 59) (K : AV → AH → Prop)
   (hk : ∀ H' p q tkS gpS, Keeps H H' → H'.next ≤ H.next + 30 → Ky H' p tkS → Ky H' q gpS → (ruE r ≠ 0 → tkS = [] ∧ gpS = []) → (ruE r = 0 → ∃ n, r.s = ((n : Nat) : Int) ∧ tkS = List.replicate n 0 ∧ gpS = nums n) → K (.tup [.agg [p, q], iv (ruE r)]) H') : Ca (ENV O) 12 [rv] H K := by
 refine c12 hq H r rv hrv hr K (fun h H' k1 n1 => hk H' _ _ [] [] k1 n1 ky_nil ky_nil (fun _ => ⟨rfl, rfl⟩) (fun e => absurd e h)) (fun h H' b c n hn k1 n1 hM1 hM2 => ?_)
 have := hk H' _ _ (List.replicate n 0) (nums n) k1 n1 (hM1.ky (List.length_replicate)) (hM2.ky (nums_len n)) (fun e => absurd h e) (fun _ => ⟨n, hn, rfl, rfl⟩)
 rw [h] at this
 exact this
theorem c19' (H : AH) (r : Ru) (k : Tk) (rv kv x y : AV) (tk gp : List Int) (hrv : rv.cells = r.cs) (hkv : kv.cells = k.cs) (hx : Ky H x tk) (hy : Ky H y gp) (hlt : tk.length ≤ 1000) (hlg : gp.length ≤ 1000) (hr : H.next + 40000 < 2 ^ 59) (K : AV → AH → Prop)
   (hk : ∀ H', Keeps H H' → H'.next ≤ H.next + 10000 → K (.tup [iv (lgX r tk gp k), iv (errE r tk gp k)]) H') : Ca (ENV O) 19 [rv, .agg [x, y], kv] H K := by
 refine c19 hq H r k rv kv x y tk gp hrv hkv hx hy hlt hlg hr K (fun h H' k1 n1 => ?_) (fun h H' k1 n1 => ?_)
 · have := hk H' k1 n1
   unfold lgX at this
   rw [if_neg h] at this
   exact this
 · have := hk H' k1 n1
   unfold lgX at this
   rw [if_pos h, h] at this
   exact this
theorem c20' (H : AH) (r : Ru) (k : Tk) (rv kv : AV) (x y : Value) (tk gp : List Int) (hrv : rv.cells = r.cs) (hkv : kv.cells = k.cs) (hx : Ky H (.v x) tk) (hy : Ky H (.v y) gp) (hlt : tk.length ≤ 1000) (hlg : gp.length ≤ 1000) (hr : H.next + 50000 < 2 ^ 59) (K : AV → AH → Prop)
   (hk : ∀ H' p q tkN gpN, Keeps H H' → H'.next ≤ H.next + 12000 → Ky H' p tkN → Ky H' q gpN → (nxtE r tk gp k ≠ 0 → tkN = [] ∧ gpN = []) → (nxtE r tk gp k = 0 → ∃ j z g, Tkd r tk gp k j z g ∧ tkN = tk.set j (z + 1) ∧ gpN = gp.set j (gapA r k g)) → K (.tup [.agg [p, q], iv (nxtE r tk gp k)]) H') : Ca (ENV O) 20 [rv, .agg [.v x, .v y], kv] H K := by
 refine c20 hq H r k rv kv x y tk gp hrv hkv hx hy hlt hlg hr K (fun h H' k1 n1 => hk H' _ _ [] [] k1 n1 ky_nil ky_nil (fun _ => ⟨rfl, rfl⟩) (fun e => absurd e h)) (fun h H' b c j z g hT k1 n1 hO1 hO2 => ?_)
 have h1 := hO1.ky
 have h2 := hO2.ky
 rw [List.length_set] at h1 h2
 have := hk H' _ _ _ _ k1 n1 h1 h2 (fun e => absurd h e) (fun _ => ⟨j, z, g, hT, rfl, rfl⟩)
 rw [h] at this
 exact this
theorem c3l (H : AH) (hA : ∀ H', H'.gl = H.gl → O 10 [] H' = some (.v (.bool true), H')) (r : Ru) (k : Tk) (rv sv kv : AV) (x y : Value) (tk gp : List Int) (hrv : rv.cells = r.cs) (hsv : sv.cells = [.v x, .v y]) (hkv : kv.cells = k.cs) (hx : Ky H (.v x) tk) (hy : Ky H (.v y) gp) (hr : H.next ≤ 1000) (K : AV → AH → Prop) (hk : ∀ H', K (.v (.bool true)) H') : Ca (ENV O) 3 [rv, sv, kv] H K := by
 refine ca_intro (hq _ _ _ rfl) (fn := Tryz.f3) (by rfl) rfl ?_
 have r0 : H.next < 2 ^ 59 := by omega
 repeat (first | apply qN | refine zq1 rfl rfl ?_ | refine qM rfl rfl ?_ | refine zq4 rfl rfl rfl rfl (inc (by omega)) ?_ | refine zqa rfl rfl rfl ?_ | refine zq5 rfl rfl rfl rfl rfl ‹_› ?_ | refine zq6 rfl rfl ‹_› ?_ | refine zqb rfl rfl rfl ‹_› ?_ | refine zq7 rfl rfl rfl ?_ | refine zq8 rfl rfl rfl ?_ | refine zq9 rfl rfl rfl rfl ?_ | refine qT rfl ?_ | refine qF rfl ?_ | apply qR | apply qS | apply qK | apply qE | apply qB | refine wp_scope ?_ | refine wp_label ?_)
 refine wops_cons (o_boxS (cs := r.cs) rfl rfl hrv r0 fun H1 n1 k1 b1 => ?_)
 have r1 : H1.next < 2 ^ 59 := by omega
 refine wops_cons (o_boxS (cs := [.v x, .v y]) rfl rfl hsv r1 fun H2 n2 k2 b2 => ?_)
 have r2 : H2.next < 2 ^ 59 := by omega
 refine wops_cons (o_boxS (cs := k.cs) rfl rfl hkv r2 fun H3 n3 k3 b3 => ?_)
 have r3 : H3.next < 2 ^ 59 := by omega
 have k03 := (k1.trans k2).trans k3
 have b1 := b1.keep (by omega) (k2.trans k3)
 have b2 := b2.keep (by omega) k3
 have hx3 := hx.keep k03
 have hy3 := hy.keep k03
 have sb : beqs [AV.v x, AV.v y] [AV.v x, AV.v y] = true := by simp [beqs, hx3.sl.beq, hy3.sl.beq]
 repeat (first | apply qN | refine zq1 rfl rfl ?_ | refine qM rfl rfl ?_ | refine zq4 rfl rfl rfl rfl (inc (by omega)) ?_ | refine zqa rfl rfl rfl ?_ | refine zq5 rfl rfl rfl rfl rfl ‹_› ?_ | refine zq6 rfl rfl ‹_› ?_ | refine zqb rfl rfl rfl ‹_› ?_ | refine zq7 rfl rfl rfl ?_ | refine zq8 rfl rfl rfl ?_ | refine zq9 rfl rfl rfl rfl ?_ | refine qT rfl ?_ | refine qF rfl ?_ | apply qR | apply qS | apply qK | apply qE | apply qB | refine wp_scope ?_ | refine wp_label ?_)
 refine wp_drawK rfl ?_
 refine k_load4 rfl rfl rfl rfl b1 (lkP (n := 0) b1 (by omega) (ru_beq r)) ?_
 refine k_load4 rfl rfl rfl rfl b2 (lkP (n := 0) b2 (by omega) sb) ?_
 refine k_load4 rfl rfl rfl rfl b3 (lkP (n := 0) b3 (by omega) (tk_beq k)) ?_
 refine k_call rfl rfl rfl (fun b h => by cases h) (wop_callF rfl rfl rfl (fn := Tryz.f9) (by rfl) ?_)
 refine c9 hq H3 _ (.v x) (.v y) rfl hx3.sl.one hy3.sl.one (by omega) _ fun H4 k4 n4 => ⟨k4.nx, k4, ?_⟩
 have r4 : H4.next < 2 ^ 59 := by omega
 have x4 := k4.nx
 refine k_allocA (zs := [iv 0, iv 0, iv 0, iv 0, iv 0]) rfl rfl rfl (z := .agg #[.int .i64 0, .int .i64 0, .int .i64 0, .int .i64 0, .int .i64 0]) (by kernel_rfl) rfl r4 ?_
 refine WK.mem (fun H5 => Keeps H4 H5 ∧ H5.next = H4.next + 1 ∧ H5.get H4.next = some (.cells [iv 0, iv 0, iv 0, iv 0, iv 0] 29 0)) ⟨(Keeps.refl H4).add _ r4, rfl, get_add_eq r4⟩ ?_
 rintro Ha ⟨ka, na, ga⟩
 have ra : Ha.next < 2 ^ 59 := by omega
 refine k_allocA (zs := [.v (.slice none 0 0), .v (.slice none 0 0)]) rfl rfl rfl (z := .agg #[.slice none 0 0, .slice none 0 0]) (by kernel_rfl) rfl ra ?_
 refine WK.mem (fun H5 => Keeps Ha H5 ∧ H5.next = Ha.next + 1 ∧ H5.get Ha.next = some (.cells [.v (.slice none 0 0), .v (.slice none 0 0)] 30 0)) ⟨(Keeps.refl Ha).add _ ra, rfl, get_add_eq ra⟩ ?_
 rintro Hb ⟨kb, nb, gb⟩
 have rb : Hb.next < 2 ^ 59 := by omega
 refine k_allocA (zs := [iv 0, iv 0, iv 0]) rfl rfl rfl (z := .agg #[.int .i64 0, .int .i64 0, .int .i64 0]) (by kernel_rfl) rfl rb ?_
 refine WK.mem (fun H5 => Keeps Hb H5 ∧ H5.next = Hb.next + 1 ∧ H5.get Hb.next = some (.cells [iv 0, iv 0, iv 0] 32 0)) ⟨(Keeps.refl Hb).add _ rb, rfl, get_add_eq rb⟩ ?_
 rintro H5 ⟨k5, n5, gc⟩
 have g5a := ((kb.trans k5).get _ (by omega)).trans ga
 have g5b := (k5.get _ (by omega)).trans gb
 have k35 := ((k4.trans ka).trans kb).trans k5
 refine k_loud rfl rfl (o_storeA (n := 5) (vs := r.cs) rfl rfl (by kernel_rfl) rfl rfl rfl rfl g5a (Nat.le_refl _) ⟨k35.set _ (by omega) r4, ?_⟩)
 refine k_loud rfl rfl (o_storeA (n := 2) (vs := [.v x, .v y]) rfl rfl (by kernel_rfl) rfl rfl rfl (by simp [hx3.sl.one, hy3.sl.one]) ((get_set_ne r4 (by omega)).trans g5b) (Nat.le_refl _) ⟨(k35.set _ (by omega) r4).set _ (by omega) ra, ?_⟩)
 refine k_loud rfl rfl (o_storeA (n := 3) (vs := k.cs) rfl rfl (by kernel_rfl) rfl rfl rfl rfl ((get_set_ne ra (by omega)).trans ((get_set_ne r4 (by omega)).trans gc)) (Nat.le_refl _) ⟨((k35.set _ (by omega) r4).set _ (by omega) ra).set _ (by omega) rb, ?_⟩)
 refine WK.mem (fun H6 => Keeps H3 H6 ∧ H6.next = H5.next ∧ Bk H6 H4.next 29 r.cs ∧ Bk H6 Ha.next 30 [.v x, .v y] ∧ Bk H6 Hb.next 32 k.cs) ⟨((k35.set _ (by omega) r4).set _ (by omega) ra).set _ (by omega) rb, rfl, ⟨r4, ?_⟩, ⟨ra, ?_⟩, ⟨rb, get_set_eq rb⟩⟩ ?_
 · rw [get_set_ne rb (by omega), get_set_ne ra (by omega)]; exact get_set_eq r4
 · rw [get_set_ne rb (by omega)]; exact get_set_eq ra
 rintro H6 ⟨k6, n6, b46, b56, b66⟩
 have k06 := k03.trans k6
 have hE : LwE H6 H.next H1.next H2.next H4.next Ha.next Hb.next r k (.v x) (.v y) tk gp := ⟨by omega, b1.keep (by omega) k6, by omega, b2.keep (by omega) k6, by omega, b3.keep (by omega) k6, by omega, b46, by omega, b56, by omega, b66, hx.keep k06, hy.keep k06⟩
 have gl6 := k06.gl
 have c5 := hE.b5
 have n6' : H6.next ≤ 2000 := by omega
 show WK _ _ _ _ _ _ _
 repeat (first | apply qN | refine zq1 rfl rfl ?_ | refine qM rfl rfl ?_ | refine zq4 rfl rfl rfl rfl (inc (by omega)) ?_ | refine zqa rfl rfl rfl ?_ | refine zq5 rfl rfl rfl rfl rfl ‹_› ?_ | refine zq6 rfl rfl ‹_› ?_ | refine zqb rfl rfl rfl ‹_› ?_ | refine zq7 rfl rfl rfl ?_ | refine zq8 rfl rfl rfl ?_ | refine zq9 rfl rfl rfl rfl ?_ | refine k_nil ?_ | refine k_skip rfl rfl ?_ | refine k_move rfl rfl rfl ?_ | refine k_assign rfl rfl rfl ?_ | refine k_pick rfl rfl rfl rfl ?_ | refine k_field rfl rfl rfl rfl ?_ | refine k_load rfl rfl rfl ‹_› ‹_› ?_ | refine k_load4 rfl rfl rfl rfl ‹_› ‹_› ?_ | refine k_lenI rfl rfl rfl rfl rfl rfl ‹_› ?_ | refine qT rfl ?_ | refine qF rfl ?_ | apply qR | apply qS | apply qK | apply qE | apply qB | refine wp_scope ?_ | refine wp_label ?_)
 refine wops_cons (wop_callF rfl rfl rfl (fn := Tryz.f10) (by rfl) ?_)
 refine ca_oracle (hA _ gl6) ⟨Nat.le_refl _, ?_⟩
 repeat (first | apply qN | refine zq1 rfl rfl ?_ | refine qM rfl rfl ?_ | refine zq4 rfl rfl rfl rfl (inc (by omega)) ?_ | refine zqa rfl rfl rfl ?_ | refine zq5 rfl rfl rfl rfl rfl ‹_› ?_ | refine zq6 rfl rfl ‹_› ?_ | refine zqb rfl rfl rfl ‹_› ?_ | refine zq7 rfl rfl rfl ?_ | refine zq8 rfl rfl rfl ?_ | refine zq9 rfl rfl rfl rfl ?_ | refine k_nil ?_ | refine k_skip rfl rfl ?_ | refine k_move rfl rfl rfl ?_ | refine k_assign rfl rfl rfl ?_ | refine k_pick rfl rfl rfl rfl ?_ | refine k_field rfl rfl rfl rfl ?_ | refine k_load rfl rfl rfl ‹_› ‹_› ?_ | refine k_load4 rfl rfl rfl rfl ‹_› ‹_› ?_ | refine k_lenI rfl rfl rfl rfl rfl rfl ‹_› ?_ | refine qT rfl ?_ | refine qF rfl ?_ | apply qR | apply qS | apply qK | apply qE | apply qB | refine wp_scope ?_ | refine wp_label ?_)
 refine WOps.cut (fun T => ∃ Y : List AV, T = (lget Y 0 :: lget Y 1 :: lget Y 2 :: .ptr H.next 0 :: .ptr H1.next 0 :: .ptr H2.next 0 :: lget Y 3 :: .ptr H4.next 0 :: .ptr Ha.next 0 :: .ptr Hb.next 0 :: lget Y 4 :: lget Y 5 :: lget Y 6 :: lget Y 7 :: lget Y 8 :: lget Y 9 :: lget Y 10 :: lget Y 11 :: lget Y 12 :: lget Y 13 :: lget Y 14 :: lget Y 15 :: lget Y 16 :: lget Y 17 :: .v (.bool false) :: .agg [.v x, .v y] :: lget Y 18 :: lget Y 19 :: lget Y 20 :: lget Y 21 :: lget Y 22 :: lget Y 23 :: lget Y 24 :: lget Y 25 :: lget Y 26 :: lget Y 27 :: lget Y 28 :: lget Y 29 :: lget Y 30 :: lget Y 31 :: lget Y 32 :: lget Y 33 :: lget Y 34 :: lget Y 35 :: lget Y 36 :: lget Y 37 :: lget Y 38 :: lget Y 39 :: lget Y 40 :: lget Y 41 :: lget Y 42 :: lget Y 43 :: lget Y 44 :: lget Y 45 :: lget Y 46 :: lget Y 47 :: lget Y 48 :: lget Y 49 :: lget Y 50 :: lget Y 51 :: lget Y 52 :: lget Y 53 :: lget Y 54 :: lget Y 55 :: lget Y 56 :: lget Y 57 :: lget Y 58 :: lget Y 59 :: lget Y 60 :: lget Y 61 :: lget Y 62 :: lget Y 63 :: lget Y 64 :: lget Y 65 :: lget Y 66 :: lget Y 67 :: lget Y 68 :: lget Y 69 :: lget Y 70 :: lget Y 71 :: lget Y 72 :: lget Y 73 :: lget Y 74 :: lget Y 75 :: lget Y 76 :: lget Y 77 :: lget Y 78 :: lget Y 79 :: lget Y 80 :: lget Y 81 :: lget Y 82 :: lget Y 83 :: lget Y 84 :: lget Y 85 :: lget Y 86 :: lget Y 87 :: lget Y 88 :: lget Y 89 :: lget Y 90 :: lget Y 91 :: lget Y 92 :: lget Y 93 :: lget Y 94 :: lget Y 95 :: lget Y 96 :: lget Y 97 :: lget Y 98 :: lget Y 99 :: lget Y 100 :: lget Y 101 :: lget Y 102 :: lget Y 103 :: lget Y 104 :: lget Y 105 :: lget Y 106 :: lget Y 107 :: lget Y 108 :: lget Y 109 :: lget Y 110 :: lget Y 111 :: lget Y 112 :: lget Y 113 :: lget Y 114 :: lget Y 115 :: lget Y 116 :: lget Y 117 :: lget Y 118 :: lget Y 119 :: lget Y 120 :: lget Y 121 :: lget Y 122 :: lget Y 123 :: lget Y 124 :: lget Y 125 :: lget Y 126 :: lget Y 127 :: lget Y 128 :: lget Y 129 :: lget Y 130 :: lget Y 131 :: lget Y 132 :: lget Y 133 :: lget Y 134 :: lget Y 135 :: lget Y 136 :: lget Y 137 :: lget Y 138 :: lget Y 139 :: lget Y 140 :: lget Y 141 :: lget Y 142 :: lget Y 143 :: lget Y 144 :: lget Y 145 :: [])) ⟨[_,_,_,_,_,_,_,_,_,_,_,_,_,_,_,_,_,_,_,_,_,_,_,_,_,_,_,_,_,_,_,_,_,_,_,_,_,_,_,_,_,_,_,_,_,_,_,_,_,_,_,_,_,_,_,_,_,_,_,_,_,_,_,_,_,_,_,_,_,_,_,_,_,_,_,_,_,_,_,_,_,_,_,_,_,_,_,_,_,_,_,_,_,_,_,_,_,_,_,_,_,_,_,_,_,_,_,_,_,_,_,_,_,_,_,_,_,_,_,_,_,_,_,_,_,_,_,_,_,_,_,_,_,_,_,_,_,_,_,_,_,_,_,_,_,_], rfl⟩ ?_
 rintro T ⟨Y, rfl⟩
 generalize hAA : H4.next = A at hE c5 ⊢
 generalize hBB : Ha.next = B at hE c5 ⊢
 generalize hCC : Hb.next = C at hE c5 ⊢
 generalize hR0 : H.next = R0 at hE c5 hr ⊢
 generalize hR1 : H1.next = R1 at hE c5 ⊢
 generalize hR2 : H2.next = R2 at hE c5 ⊢
 clear hR0 hR1 hR2 hAA hBB hCC c5
 clear b1 b2 b3 k4 k5 k35 g5a g5b ga gb gc b46 b56 b66 hx3 hy3 sb ka kb na nb n5 n6
 clear k6 n1 n2 n3 n4 k1 k2 k3 k03 k06 r0 r1 r2 r3 r4 ra rb x4
 clear hrv hsv hkv
 refine wops_cons (wop_callF rfl rfl rfl (fn := Tryz.f11) (by rfl) ?_)
 refine c11 hq H6 _ _ tk gp hE.x.sl hE.y.sl hE.x.old hE.y.old (by omega) _ fun H7 k7 n7 => ⟨k7.nx, ?_⟩
 have hE7 := hE.keep k7
 have n7' : H7.next ≤ 3000 := by omega
 have gl7 : H7.gl = H.gl := k7.gl.trans gl6
 clear hE n7 k7 n6' gl6
 cases hS : (decide ((tk.length : Int) ≤ 11) && decide ((gp.length : Int) ≤ 11)) with
 | false =>
   repeat (first | apply qN | refine zq1 rfl rfl ?_ | refine qM rfl rfl ?_ | refine zq4 rfl rfl rfl rfl (inc (by omega)) ?_ | refine zqa rfl rfl rfl ?_ | refine zq5 rfl rfl rfl rfl rfl ‹_› ?_ | refine zq6 rfl rfl ‹_› ?_ | refine zqb rfl rfl rfl ‹_› ?_ | refine zq7 rfl rfl rfl ?_ | refine zq8 rfl rfl rfl ?_ | refine zq9 rfl rfl rfl rfl ?_ | refine k_nil ?_ | refine k_skip rfl rfl ?_ | refine k_move rfl rfl rfl ?_ | refine k_assign rfl rfl rfl ?_ | refine k_pick rfl rfl rfl rfl ?_ | refine k_field rfl rfl rfl rfl ?_ | refine k_load rfl rfl rfl ‹_› ‹_› ?_ | refine k_load4 rfl rfl rfl rfl ‹_› ‹_› ?_ | refine k_lenI rfl rfl rfl rfl rfl rfl ‹_› ?_ | refine qT rfl ?_ | refine qF rfl ?_ | apply qR | apply qS | apply qK | apply qE | apply qB | refine wp_scope ?_ | refine wp_label ?_)
   refine wops_cons (wop_callF rfl rfl rfl (fn := Tryz.f10) (by rfl) ?_)
   refine ca_oracle (hA _ gl7) ⟨Nat.le_refl _, ?_⟩
   repeat (first | apply qN | refine zq1 rfl rfl ?_ | refine qM rfl rfl ?_ | refine zq4 rfl rfl rfl rfl (inc (by omega)) ?_ | refine zqa rfl rfl rfl ?_ | refine zq5 rfl rfl rfl rfl rfl ‹_› ?_ | refine zq6 rfl rfl ‹_› ?_ | refine zqb rfl rfl rfl ‹_› ?_ | refine zq7 rfl rfl rfl ?_ | refine zq8 rfl rfl rfl ?_ | refine zq9 rfl rfl rfl rfl ?_ | refine k_nil ?_ | refine k_skip rfl rfl ?_ | refine k_move rfl rfl rfl ?_ | refine k_assign rfl rfl rfl ?_ | refine k_pick rfl rfl rfl rfl ?_ | refine k_field rfl rfl rfl rfl ?_ | refine k_load rfl rfl rfl ‹_› ‹_› ?_ | refine k_load4 rfl rfl rfl rfl ‹_› ‹_› ?_ | refine k_lenI rfl rfl rfl rfl rfl rfl ‹_› ?_ | refine qT rfl ?_ | refine qF rfl ?_ | apply qR | apply qS | apply qK | apply qE | apply qB | refine wp_scope ?_ | refine wp_label ?_)
   refine wp_ret ?_
   exact ⟨_, _, rfl, hk _⟩
 | true =>
 have hlt : tk.length ≤ 1000 ∧ gp.length ≤ 1000 := by simp at hS; omega
 obtain ⟨hlt, hlg⟩ := hlt
 clear hS
 have c1 := hE7.b1
 repeat (first | apply qN | refine zq1 rfl rfl ?_ | refine qM rfl rfl ?_ | refine zq4 rfl rfl rfl rfl (inc (by omega)) ?_ | refine zqa rfl rfl rfl ?_ | refine zq5 rfl rfl rfl rfl rfl ‹_› ?_ | refine zq6 rfl rfl ‹_› ?_ | refine zqb rfl rfl rfl ‹_› ?_ | refine zq7 rfl rfl rfl ?_ | refine zq8 rfl rfl rfl ?_ | refine zq9 rfl rfl rfl rfl ?_ | refine k_nil ?_ | refine k_skip rfl rfl ?_ | refine k_move rfl rfl rfl ?_ | refine k_assign rfl rfl rfl ?_ | refine k_pick rfl rfl rfl rfl ?_ | refine k_field rfl rfl rfl rfl ?_ | refine k_load rfl rfl rfl ‹_› ‹_› ?_ | refine k_load4 rfl rfl rfl rfl ‹_› ‹_› ?_ | refine k_lenI rfl rfl rfl rfl rfl rfl ‹_› ?_ | refine qT rfl ?_ | refine qF rfl ?_ | apply qR | apply qS | apply qK | apply qE | apply qB | refine wp_scope ?_ | refine wp_label ?_)
 refine WOps.cut (fun T => ∃ Y : List AV, T = (lget Y 0 :: lget Y 1 :: lget Y 2 :: .ptr R0 0 :: .ptr R1 0 :: .ptr R2 0 :: lget Y 3 :: .ptr A 0 :: .ptr B 0 :: .ptr C 0 :: lget Y 4 :: lget Y 5 :: lget Y 6 :: lget Y 7 :: lget Y 8 :: lget Y 9 :: lget Y 10 :: lget Y 11 :: lget Y 12 :: lget Y 13 :: lget Y 14 :: lget Y 15 :: lget Y 16 :: lget Y 17 :: lget Y 18 :: lget Y 19 :: lget Y 20 :: lget Y 21 :: lget Y 22 :: lget Y 23 :: lget Y 24 :: .agg r.cs :: lget Y 25 :: lget Y 26 :: lget Y 27 :: lget Y 28 :: lget Y 29 :: lget Y 30 :: lget Y 31 :: lget Y 32 :: lget Y 33 :: lget Y 34 :: lget Y 35 :: lget Y 36 :: lget Y 37 :: lget Y 38 :: lget Y 39 :: lget Y 40 :: lget Y 41 :: lget Y 42 :: lget Y 43 :: lget Y 44 :: lget Y 45 :: lget Y 46 :: lget Y 47 :: lget Y 48 :: lget Y 49 :: lget Y 50 :: lget Y 51 :: lget Y 52 :: lget Y 53 :: lget Y 54 :: lget Y 55 :: lget Y 56 :: lget Y 57 :: lget Y 58 :: lget Y 59 :: lget Y 60 :: lget Y 61 :: lget Y 62 :: lget Y 63 :: lget Y 64 :: lget Y 65 :: lget Y 66 :: lget Y 67 :: lget Y 68 :: lget Y 69 :: lget Y 70 :: lget Y 71 :: lget Y 72 :: lget Y 73 :: lget Y 74 :: lget Y 75 :: lget Y 76 :: lget Y 77 :: lget Y 78 :: lget Y 79 :: lget Y 80 :: lget Y 81 :: lget Y 82 :: lget Y 83 :: lget Y 84 :: lget Y 85 :: lget Y 86 :: lget Y 87 :: lget Y 88 :: lget Y 89 :: lget Y 90 :: lget Y 91 :: lget Y 92 :: lget Y 93 :: lget Y 94 :: lget Y 95 :: lget Y 96 :: lget Y 97 :: lget Y 98 :: lget Y 99 :: lget Y 100 :: lget Y 101 :: lget Y 102 :: lget Y 103 :: lget Y 104 :: lget Y 105 :: lget Y 106 :: lget Y 107 :: lget Y 108 :: lget Y 109 :: lget Y 110 :: lget Y 111 :: lget Y 112 :: lget Y 113 :: lget Y 114 :: lget Y 115 :: lget Y 116 :: lget Y 117 :: lget Y 118 :: lget Y 119 :: lget Y 120 :: lget Y 121 :: lget Y 122 :: lget Y 123 :: lget Y 124 :: lget Y 125 :: lget Y 126 :: lget Y 127 :: lget Y 128 :: lget Y 129 :: lget Y 130 :: lget Y 131 :: lget Y 132 :: lget Y 133 :: lget Y 134 :: lget Y 135 :: lget Y 136 :: lget Y 137 :: lget Y 138 :: lget Y 139 :: lget Y 140 :: lget Y 141 :: lget Y 142 :: lget Y 143 :: lget Y 144 :: lget Y 145 :: lget Y 146 :: [])) ⟨[_,_,_,_,_,_,_,_,_,_,_,_,_,_,_,_,_,_,_,_,_,_,_,_,_,_,_,_,_,_,_,_,_,_,_,_,_,_,_,_,_,_,_,_,_,_,_,_,_,_,_,_,_,_,_,_,_,_,_,_,_,_,_,_,_,_,_,_,_,_,_,_,_,_,_,_,_,_,_,_,_,_,_,_,_,_,_,_,_,_,_,_,_,_,_,_,_,_,_,_,_,_,_,_,_,_,_,_,_,_,_,_,_,_,_,_,_,_,_,_,_,_,_,_,_,_,_,_,_,_,_,_,_,_,_,_,_,_,_,_,_,_,_,_,_,_,_], rfl⟩ ?_
 rintro T ⟨Y, rfl⟩
 refine wops_cons (wop_callF rfl rfl rfl (fn := Tryz.f12) (by rfl) ?_)
 refine c12' hq H7 r _ rfl (by omega) _ fun H8 p q tkS gpS k8 n8 hp hq' hs1 hs2 => ⟨k8.nx, ?_⟩
 have hE8 := hE7.keep k8
 have gl8 : H8.gl = H.gl := k8.gl.trans gl7
 have n8' : H8.next ≤ 4000 := by omega
 have hSl : tkS.length ≤ 1000 ∧ gpS.length ≤ 1000 := by
   by_cases h0 : ruE r = 0
   · obtain ⟨n, hn, e1, e2⟩ := hs2 h0
     have := ruE_ok h0
     rw [e1, e2, nums_len, List.length_replicate]
     omega
   · obtain ⟨e1, e2⟩ := hs1 h0
     rw [e1, e2]; simp
 have x8 := k8.nx
 clear hE7 k8 n8 gl7 n7' c1
 have r8 : H8.next < 2 ^ 59 := by omega
 repeat (first | apply qN | refine zq1 rfl rfl ?_ | refine qM rfl rfl ?_ | refine zq4 rfl rfl rfl rfl (inc (by omega)) ?_ | refine zqa rfl rfl rfl ?_ | refine zq5 rfl rfl rfl rfl rfl ‹_› ?_ | refine zq6 rfl rfl ‹_› ?_ | refine zqb rfl rfl rfl ‹_› ?_ | refine zq7 rfl rfl rfl ?_ | refine zq8 rfl rfl rfl ?_ | refine zq9 rfl rfl rfl rfl ?_ | refine k_nil ?_ | refine k_skip rfl rfl ?_ | refine k_move rfl rfl rfl ?_ | refine k_assign rfl rfl rfl ?_ | refine k_pick rfl rfl rfl rfl ?_ | refine k_field rfl rfl rfl rfl ?_ | refine k_load rfl rfl rfl ‹_› ‹_› ?_ | refine k_load4 rfl rfl rfl rfl ‹_› ‹_› ?_ | refine k_lenI rfl rfl rfl rfl rfl rfl ‹_› ?_ | refine qT rfl ?_ | refine qF rfl ?_ | apply qR | apply qS | apply qK | apply qE | apply qB | refine wp_scope ?_ | refine wp_label ?_)
 refine wops_cons (o_allocA (zs := [.v (.slice none 0 0), .v (.slice none 0 0)]) rfl rfl (z := .agg #[.slice none 0 0, .slice none 0 0]) (by kernel_rfl) rfl r8 ?_)
 refine wops_cons (o_storeA (n := 2) (vs := [p, q]) rfl rfl (by kernel_rfl) rfl rfl rfl (by simp [hp.sl.one, hq'.sl.one]) (get_add_eq r8) (Nat.le_refl _) ?_)
 refine WOps.mem (fun H9 => Keeps H8 H9 ∧ H9.next = H8.next + 1 ∧ Bk H9 H8.next 26 [p, q]) ⟨((Keeps.refl H8).add _ r8).set _ (Nat.le_refl _) r8, rfl, ⟨r8, get_set_eq r8⟩⟩ ?_
 rintro H9 ⟨k9, n9, b9⟩
 have hE9 := hE8.keep k9
 have gl9 : H9.gl = H.gl := k9.gl.trans gl8
 have n9' : H9.next ≤ 4001 := by omega
 have hp9 := hp.keep k9
 have hq9 := hq'.keep k9
 clear hE8 gl8 hp hq'
 generalize hSS : H8.next = S at b9 n9 ⊢
 have hSlt : S < H9.next := by omega
 clear k9 hSS n9 n8' x8 r8
 have c4 := hE9.b4
 show WOps _ _ _ _ _ _
 repeat (first | apply qN | refine zq1 rfl rfl ?_ | refine qM rfl rfl ?_ | refine zq4 rfl rfl rfl rfl (inc (by omega)) ?_ | refine zqa rfl rfl rfl ?_ | refine zq5 rfl rfl rfl rfl rfl ‹_› ?_ | refine zq6 rfl rfl ‹_› ?_ | refine zqb rfl rfl rfl ‹_› ?_ | refine zq7 rfl rfl rfl ?_ | refine zq8 rfl rfl rfl ?_ | refine zq9 rfl rfl rfl rfl ?_ | refine k_nil ?_ | refine k_skip rfl rfl ?_ | refine k_move rfl rfl rfl ?_ | refine k_assign rfl rfl rfl ?_ | refine k_pick rfl rfl rfl rfl ?_ | refine k_field rfl rfl rfl rfl ?_ | refine k_load rfl rfl rfl ‹_› ‹_› ?_ | refine k_load4 rfl rfl rfl rfl ‹_› ‹_› ?_ | refine k_lenI rfl rfl rfl rfl rfl rfl ‹_› ?_ | refine qT rfl ?_ | refine qF rfl ?_ | apply qR | apply qS | apply qK | apply qE | apply qB | refine wp_scope ?_ | refine wp_label ?_)
 refine WOps.cut (fun T => ∃ Y : List AV, T = (lget Y 0 :: lget Y 1 :: lget Y 2 :: .ptr R0 0 :: .ptr R1 0 :: .ptr R2 0 :: lget Y 3 :: .ptr A 0 :: .ptr B 0 :: .ptr C 0 :: .ptr S 0 :: iv (ruE r) :: lget Y 4 :: lget Y 5 :: lget Y 6 :: lget Y 7 :: lget Y 8 :: lget Y 9 :: lget Y 10 :: lget Y 11 :: lget Y 12 :: lget Y 13 :: lget Y 14 :: lget Y 15 :: lget Y 16 :: lget Y 17 :: lget Y 18 :: lget Y 19 :: lget Y 20 :: lget Y 21 :: lget Y 22 :: lget Y 23 :: lget Y 24 :: lget Y 25 :: lget Y 26 :: .agg r.cs :: lget Y 27 :: lget Y 28 :: lget Y 29 :: lget Y 30 :: lget Y 31 :: lget Y 32 :: lget Y 33 :: lget Y 34 :: lget Y 35 :: lget Y 36 :: lget Y 37 :: lget Y 38 :: lget Y 39 :: lget Y 40 :: lget Y 41 :: lget Y 42 :: lget Y 43 :: lget Y 44 :: lget Y 45 :: lget Y 46 :: lget Y 47 :: lget Y 48 :: lget Y 49 :: lget Y 50 :: lget Y 51 :: lget Y 52 :: lget Y 53 :: lget Y 54 :: lget Y 55 :: lget Y 56 :: lget Y 57 :: lget Y 58 :: lget Y 59 :: lget Y 60 :: lget Y 61 :: lget Y 62 :: lget Y 63 :: lget Y 64 :: lget Y 65 :: lget Y 66 :: lget Y 67 :: lget Y 68 :: lget Y 69 :: lget Y 70 :: lget Y 71 :: lget Y 72 :: lget Y 73 :: lget Y 74 :: lget Y 75 :: lget Y 76 :: lget Y 77 :: lget Y 78 :: lget Y 79 :: lget Y 80 :: lget Y 81 :: lget Y 82 :: lget Y 83 :: lget Y 84 :: lget Y 85 :: lget Y 86 :: lget Y 87 :: lget Y 88 :: lget Y 89 :: lget Y 90 :: lget Y 91 :: lget Y 92 :: lget Y 93 :: lget Y 94 :: lget Y 95 :: lget Y 96 :: lget Y 97 :: lget Y 98 :: lget Y 99 :: lget Y 100 :: lget Y 101 :: lget Y 102 :: lget Y 103 :: lget Y 104 :: lget Y 105 :: lget Y 106 :: lget Y 107 :: lget Y 108 :: lget Y 109 :: lget Y 110 :: lget Y 111 :: lget Y 112 :: lget Y 113 :: lget Y 114 :: lget Y 115 :: lget Y 116 :: lget Y 117 :: lget Y 118 :: lget Y 119 :: lget Y 120 :: lget Y 121 :: lget Y 122 :: lget Y 123 :: lget Y 124 :: lget Y 125 :: lget Y 126 :: lget Y 127 :: lget Y 128 :: lget Y 129 :: lget Y 130 :: lget Y 131 :: lget Y 132 :: lget Y 133 :: lget Y 134 :: lget Y 135 :: lget Y 136 :: lget Y 137 :: lget Y 138 :: lget Y 139 :: lget Y 140 :: lget Y 141 :: lget Y 142 :: lget Y 143 :: lget Y 144 :: [])) ⟨[_,_,_,_,_,_,_,_,_,_,_,_,_,_,_,_,_,_,_,_,_,_,_,_,_,_,_,_,_,_,_,_,_,_,_,_,_,_,_,_,_,_,_,_,_,_,_,_,_,_,_,_,_,_,_,_,_,_,_,_,_,_,_,_,_,_,_,_,_,_,_,_,_,_,_,_,_,_,_,_,_,_,_,_,_,_,_,_,_,_,_,_,_,_,_,_,_,_,_,_,_,_,_,_,_,_,_,_,_,_,_,_,_,_,_,_,_,_,_,_,_,_,_,_,_,_,_,_,_,_,_,_,_,_,_,_,_,_,_,_,_,_,_,_,_], rfl⟩ ?_
 rintro T ⟨Y, rfl⟩
 refine wops_cons (wop_callF rfl rfl rfl (fn := Tryz.f13) (by rfl) ?_)
 refine c13 hq H9 r _ rfl (by omega) _ fun H10 k10 n10 => ⟨k10.nx, ?_⟩
 have hE10 := hE9.keep k10
 have gl10 : H10.gl = H.gl := k10.gl.trans gl9
 have n10' : H10.next ≤ 4010 := by omega
 have hp10 := hp9.keep k10
 have hq10 := hq9.keep k10
 have b10 := b9.keep hSlt k10
 have hSlt10 : S < H10.next := by omega
 clear hE9 gl9 hp9 hq9 b9 k10 n10 n9' hSlt c4
 have spq : beqs [p, q] [p, q] = true := by simp [beqs, hp10.sl.beq, hq10.sl.beq]
 repeat (first | apply qN | refine zq1 rfl rfl ?_ | refine qM rfl rfl ?_ | refine zq4 rfl rfl rfl rfl (inc (by omega)) ?_ | refine zqa rfl rfl rfl ?_ | refine zq5 rfl rfl rfl rfl rfl ‹_› ?_ | refine zq6 rfl rfl ‹_› ?_ | refine zqb rfl rfl rfl ‹_› ?_ | refine zq7 rfl rfl rfl ?_ | refine zq8 rfl rfl rfl ?_ | refine zq9 rfl rfl rfl rfl ?_ | refine k_nil ?_ | refine k_skip rfl rfl ?_ | refine k_move rfl rfl rfl ?_ | refine k_assign rfl rfl rfl ?_ | refine k_pick rfl rfl rfl rfl ?_ | refine k_field rfl rfl rfl rfl ?_ | refine k_load rfl rfl rfl ‹_› ‹_› ?_ | refine k_load4 rfl rfl rfl rfl ‹_› ‹_› ?_ | refine k_lenI rfl rfl rfl rfl rfl rfl ‹_› ?_ | refine qT rfl ?_ | refine qF rfl ?_ | apply qR | apply qS | apply qK | apply qE | apply qB | refine wp_scope ?_ | refine wp_label ?_)
 refine Wp.cut (fun T => ∃ Y : List AV, T = (lget Y 0 :: lget Y 1 :: lget Y 2 :: .ptr R0 0 :: .ptr R1 0 :: .ptr R2 0 :: lget Y 3 :: .ptr A 0 :: .ptr B 0 :: .ptr C 0 :: .ptr S 0 :: iv (ruE r) :: iv (ruE r) :: lget Y 4 :: lget Y 5 :: lget Y 6 :: lget Y 7 :: lget Y 8 :: lget Y 9 :: lget Y 10 :: lget Y 11 :: lget Y 12 :: lget Y 13 :: lget Y 14 :: lget Y 15 :: lget Y 16 :: lget Y 17 :: lget Y 18 :: lget Y 19 :: lget Y 20 :: lget Y 21 :: lget Y 22 :: lget Y 23 :: lget Y 24 :: lget Y 25 :: lget Y 26 :: lget Y 27 :: lget Y 28 :: lget Y 29 :: lget Y 30 :: lget Y 31 :: lget Y 32 :: lget Y 33 :: lget Y 34 :: lget Y 35 :: lget Y 36 :: lget Y 37 :: lget Y 38 :: lget Y 39 :: lget Y 40 :: lget Y 41 :: lget Y 42 :: lget Y 43 :: lget Y 44 :: lget Y 45 :: lget Y 46 :: lget Y 47 :: lget Y 48 :: lget Y 49 :: lget Y 50 :: lget Y 51 :: lget Y 52 :: lget Y 53 :: lget Y 54 :: lget Y 55 :: lget Y 56 :: lget Y 57 :: lget Y 58 :: lget Y 59 :: lget Y 60 :: lget Y 61 :: lget Y 62 :: lget Y 63 :: lget Y 64 :: lget Y 65 :: lget Y 66 :: lget Y 67 :: lget Y 68 :: lget Y 69 :: lget Y 70 :: lget Y 71 :: lget Y 72 :: lget Y 73 :: lget Y 74 :: lget Y 75 :: lget Y 76 :: lget Y 77 :: lget Y 78 :: lget Y 79 :: lget Y 80 :: lget Y 81 :: lget Y 82 :: lget Y 83 :: lget Y 84 :: lget Y 85 :: lget Y 86 :: lget Y 87 :: lget Y 88 :: lget Y 89 :: lget Y 90 :: lget Y 91 :: lget Y 92 :: lget Y 93 :: lget Y 94 :: lget Y 95 :: lget Y 96 :: lget Y 97 :: lget Y 98 :: lget Y 99 :: lget Y 100 :: lget Y 101 :: lget Y 102 :: lget Y 103 :: lget Y 104 :: lget Y 105 :: lget Y 106 :: lget Y 107 :: lget Y 108 :: lget Y 109 :: lget Y 110 :: lget Y 111 :: lget Y 112 :: lget Y 113 :: lget Y 114 :: lget Y 115 :: lget Y 116 :: lget Y 117 :: lget Y 118 :: lget Y 119 :: lget Y 120 :: lget Y 121 :: lget Y 122 :: lget Y 123 :: lget Y 124 :: lget Y 125 :: lget Y 126 :: lget Y 127 :: lget Y 128 :: lget Y 129 :: lget Y 130 :: lget Y 131 :: lget Y 132 :: lget Y 133 :: lget Y 134 :: lget Y 135 :: lget Y 136 :: lget Y 137 :: lget Y 138 :: lget Y 139 :: lget Y 140 :: lget Y 141 :: lget Y 142 :: lget Y 143 :: lget Y 144 :: [])) ⟨[_,_,_,_,_,_,_,_,_,_,_,_,_,_,_,_,_,_,_,_,_,_,_,_,_,_,_,_,_,_,_,_,_,_,_,_,_,_,_,_,_,_,_,_,_,_,_,_,_,_,_,_,_,_,_,_,_,_,_,_,_,_,_,_,_,_,_,_,_,_,_,_,_,_,_,_,_,_,_,_,_,_,_,_,_,_,_,_,_,_,_,_,_,_,_,_,_,_,_,_,_,_,_,_,_,_,_,_,_,_,_,_,_,_,_,_,_,_,_,_,_,_,_,_,_,_,_,_,_,_,_,_,_,_,_,_,_,_,_,_,_,_,_,_,_], rfl⟩ ?_
 rintro T ⟨Y, rfl⟩
 refine wp_drawK rfl ?_
 refine WK.mono (K := fun T' H' => Keeps H10 H' ∧ H'.next ≤ H10.next + 1000 ∧ ∃ Y : List AV, T' = (lget Y 0 :: lget Y 1 :: lget Y 2 :: .ptr R0 0 :: .ptr R1 0 :: .ptr R2 0 :: lget Y 3 :: .ptr A 0 :: .ptr B 0 :: .ptr C 0 :: .ptr S 0 :: iv (ruE r) :: iv (ruE r) :: lget Y 4 :: lget Y 5 :: lget Y 6 :: lget Y 7 :: lget Y 8 :: lget Y 9 :: lget Y 10 :: lget Y 11 :: lget Y 12 :: lget Y 13 :: lget Y 14 :: lget Y 15 :: lget Y 16 :: lget Y 17 :: lget Y 18 :: lget Y 19 :: lget Y 20 :: lget Y 21 :: lget Y 22 :: lget Y 23 :: lget Y 24 :: lget Y 25 :: lget Y 26 :: lget Y 27 :: lget Y 28 :: lget Y 29 :: lget Y 30 :: lget Y 31 :: lget Y 32 :: lget Y 33 :: lget Y 34 :: lget Y 35 :: lget Y 36 :: lget Y 37 :: lget Y 38 :: lget Y 39 :: lget Y 40 :: lget Y 41 :: lget Y 42 :: lget Y 43 :: lget Y 44 :: lget Y 45 :: lget Y 46 :: lget Y 47 :: lget Y 48 :: lget Y 49 :: lget Y 50 :: lget Y 51 :: lget Y 52 :: lget Y 53 :: lget Y 54 :: lget Y 55 :: lget Y 56 :: lget Y 57 :: lget Y 58 :: lget Y 59 :: lget Y 60 :: lget Y 61 :: .v (.bool false) :: lget Y 62 :: lget Y 63 :: lget Y 64 :: lget Y 65 :: lget Y 66 :: lget Y 67 :: lget Y 68 :: lget Y 69 :: lget Y 70 :: lget Y 71 :: lget Y 72 :: lget Y 73 :: lget Y 74 :: lget Y 75 :: lget Y 76 :: lget Y 77 :: lget Y 78 :: lget Y 79 :: lget Y 80 :: lget Y 81 :: lget Y 82 :: lget Y 83 :: lget Y 84 :: lget Y 85 :: lget Y 86 :: lget Y 87 :: lget Y 88 :: lget Y 89 :: lget Y 90 :: lget Y 91 :: lget Y 92 :: lget Y 93 :: lget Y 94 :: lget Y 95 :: lget Y 96 :: lget Y 97 :: lget Y 98 :: lget Y 99 :: lget Y 100 :: lget Y 101 :: lget Y 102 :: lget Y 103 :: lget Y 104 :: lget Y 105 :: lget Y 106 :: lget Y 107 :: lget Y 108 :: lget Y 109 :: lget Y 110 :: lget Y 111 :: lget Y 112 :: lget Y 113 :: lget Y 114 :: lget Y 115 :: lget Y 116 :: lget Y 117 :: lget Y 118 :: lget Y 119 :: lget Y 120 :: lget Y 121 :: lget Y 122 :: lget Y 123 :: lget Y 124 :: lget Y 125 :: lget Y 126 :: lget Y 127 :: lget Y 128 :: lget Y 129 :: lget Y 130 :: lget Y 131 :: lget Y 132 :: lget Y 133 :: lget Y 134 :: lget Y 135 :: lget Y 136 :: lget Y 137 :: lget Y 138 :: lget Y 139 :: lget Y 140 :: lget Y 141 :: lget Y 142 :: lget Y 143 :: [])) ?_ ?_
 rotate_left
 · refine k_load4 rfl rfl rfl rfl hE10.b1 (lkP (n := 0) hE10.b1 hE10.l1 (ru_beq r)) ?_
   refine k_move rfl rfl rfl ?_
   refine k_call rfl rfl rfl (fun b h => by cases h) (wop_callF rfl rfl rfl (fn := Tryz.f14) (by rfl) ?_)
   refine c14 hq H10 r _ rfl (by omega) _ fun H11 k11 n11 => ⟨k11.nx, k11, ?_⟩
   have x11 := k11.nx
   by_cases h0 : ruE r = 0
   · obtain ⟨n, hn, e1, e2⟩ := hs2 h0
     rw [h0]
     refine k_bin (op := .neq) (v := .bool false) rfl rfl rfl rfl rfl rfl ?_
     refine k_move rfl rfl rfl ?_
     refine k_move rfl rfl rfl ?_
     refine k_move rfl rfl rfl ?_
     refine k_bin (op := .neq) (v := .bool false) rfl rfl rfl rfl rfl rfl ?_
     refine k_pick rfl rfl rfl rfl ?_
     refine k_move rfl rfl rfl ?_
     refine k_move rfl rfl rfl ?_
     refine k_bin (op := .eql) (v := .bool true) rfl rfl rfl rfl rfl rfl ?_
     refine k_move rfl rfl rfl ?_
     refine k_load4 rfl rfl rfl rfl b10 (lkP (n := 0) b10 hSlt10 spq) ?_
     refine k_load4 rfl rfl rfl rfl hE10.b4 (lkP (n := 0) hE10.b4 hE10.l4 (ru_beq r)) ?_
     refine k_call rfl rfl rfl (fun b h => by cases h) (wop_callF rfl rfl rfl (fn := Tryz.f9) (by rfl) ?_)
     refine c9 hq H11 _ p q rfl hp10.sl.one hq10.sl.one (by omega) _ fun H12 k12 n12 => ⟨k12.nx, k11.trans k12, ?_⟩
     have x12 := k12.nx
     refine k_call rfl rfl rfl (fun b h => by cases h) (wop_callF rfl rfl rfl (fn := Tryz.f16) (by rfl) ?_)
     refine c16 hq H12 r n _ rfl hn (by have := ruE_ok h0; omega) (by omega) _ fun H13 p2 q2 k13 n13 hp2 hq2 => ⟨k13.nx, (k11.trans k12).trans k13, ?_⟩
     have x13 := k13.nx
     refine k_call rfl rfl rfl (fun b h => by cases h) (wop_callF rfl rfl rfl (fn := Tryz.f15) (by rfl) ?_)
     have k1013 := (k11.trans k12).trans k13
     refine c15 hq H13 p q p2 q2 tkS gpS _ _ (hp10.keep k1013) (hq10.keep k1013) hp2 hq2 hSl.1 hSl.2 (by rw [← e1]; exact hSl.1) (by rw [← e2]; exact hSl.2) (by omega) _ fun H14 k14 n14 => ⟨k14.nx, k1013.trans k14, ?_⟩
     have x14 := k14.nx
     rw [e1, e2, decide_eq_true rfl, decide_eq_true rfl]
     refine k_not rfl rfl rfl rfl ?_
     refine k_pick rfl rfl rfl rfl ?_
     refine k_pick rfl rfl rfl rfl ?_
     refine k_move rfl rfl rfl ?_
     refine k_move rfl rfl rfl ?_
     refine k_bin (op := .neq) (v := .bool false) rfl rfl rfl rfl rfl rfl ?_
     repeat (first | apply qN | refine zq1 rfl rfl ?_ | refine qM rfl rfl ?_ | refine zq4 rfl rfl rfl rfl (inc (by omega)) ?_ | refine zqa rfl rfl rfl ?_ | refine zq5 rfl rfl rfl rfl rfl ‹_› ?_ | refine zq6 rfl rfl ‹_› ?_ | refine zqb rfl rfl rfl ‹_› ?_ | refine zq7 rfl rfl rfl ?_ | refine zq8 rfl rfl rfl ?_ | refine zq9 rfl rfl rfl rfl ?_ | refine k_nil ?_ | refine k_skip rfl rfl ?_ | refine k_move rfl rfl rfl ?_ | refine k_assign rfl rfl rfl ?_ | refine k_pick rfl rfl rfl rfl ?_ | refine k_field rfl rfl rfl rfl ?_ | refine k_load rfl rfl rfl ‹_› ‹_› ?_ | refine k_load4 rfl rfl rfl rfl ‹_› ‹_› ?_ | refine k_lenI rfl rfl rfl rfl rfl rfl ‹_› ?_ | refine qT rfl ?_ | refine qF rfl ?_ | apply qR | apply qS | apply qK | apply qE | apply qB | refine wp_scope ?_ | refine wp_label ?_)
     refine k_loudSkip rfl rfl (k1013.trans k14) ?_
     repeat (first | apply qN | refine zq1 rfl rfl ?_ | refine qM rfl rfl ?_ | refine zq4 rfl rfl rfl rfl (inc (by omega)) ?_ | refine zqa rfl rfl rfl ?_ | refine zq5 rfl rfl rfl rfl rfl ‹_› ?_ | refine zq6 rfl rfl ‹_› ?_ | refine zqb rfl rfl rfl ‹_› ?_ | refine zq7 rfl rfl rfl ?_ | refine zq8 rfl rfl rfl ?_ | refine zq9 rfl rfl rfl rfl ?_ | refine k_nil ?_ | refine k_skip rfl rfl ?_ | refine k_move rfl rfl rfl ?_ | refine k_assign rfl rfl rfl ?_ | refine k_pick rfl rfl rfl rfl ?_ | refine k_field rfl rfl rfl rfl ?_ | refine k_load rfl rfl rfl ‹_› ‹_› ?_ | refine k_load4 rfl rfl rfl rfl ‹_› ‹_› ?_ | refine k_lenI rfl rfl rfl rfl rfl rfl ‹_› ?_ | refine qT rfl ?_ | refine qF rfl ?_ | apply qR | apply qS | apply qK | apply qE | apply qB | refine wp_scope ?_ | refine wp_label ?_)
     exact ⟨k1013.trans k14, by omega, [_,_,_,_,_,_,_,_,_,_,_,_,_,_,_,_,_,_,_,_,_,_,_,_,_,_,_,_,_,_,_,_,_,_,_,_,_,_,_,_,_,_,_,_,_,_,_,_,_,_,_,_,_,_,_,_,_,_,_,_,_,_,_,_,_,_,_,_,_,_,_,_,_,_,_,_,_,_,_,_,_,_,_,_,_,_,_,_,_,_,_,_,_,_,_,_,_,_,_,_,_,_,_,_,_,_,_,_,_,_,_,_,_,_,_,_,_,_,_,_,_,_,_,_,_,_,_,_,_,_,_,_,_,_,_,_,_,_,_,_,_,_,_,_], rfl⟩
   · obtain ⟨e1, e2⟩ := hs1 h0
     have hp11 : Sl H10 p (ivs []) := by rw [← e1]; exact hp10.sl
     have hq11 : Sl H10 q (ivs []) := by rw [← e2]; exact hq10.sl
     have sp0 : At H10 (.ptr S 0) p := b10.at rfl
     have sp1 : At H10 (.ptr S 1) q := b10.at rfl
     have M := fun n => lkP (n := n) b10 hSlt10 spq
     generalize ruE r = w at h0 ⊢
     refine k_bin (op := .neq) (v := .bool false) rfl rfl rfl rfl rfl (by simp [binI]) ?_
     refine k_move rfl rfl rfl ?_
     refine k_move rfl rfl rfl ?_
     refine k_move rfl rfl rfl ?_
     refine k_bin (op := .neq) (v := .bool false) rfl rfl rfl rfl rfl (by simp [binI]) ?_
     refine k_pick rfl rfl rfl rfl ?_
     refine k_move rfl rfl rfl ?_
     refine k_move rfl rfl rfl ?_
     refine k_bin (op := .eql) (v := .bool false) rfl rfl rfl rfl rfl (by simp [binI]; omega) ?_
     repeat (first | apply qN | refine zq1 rfl rfl ?_ | refine qM rfl rfl ?_ | refine zq4 rfl rfl rfl rfl (inc (by omega)) ?_ | refine zqa rfl rfl rfl ?_ | refine zq5 rfl rfl rfl rfl rfl ‹_› ?_ | refine zq6 rfl rfl ‹_› ?_ | refine zqb rfl rfl rfl ‹_› ?_ | refine zq7 rfl rfl rfl ?_ | refine zq8 rfl rfl rfl ?_ | refine zq9 rfl rfl rfl rfl ?_ | refine k_nil ?_ | refine k_skip rfl rfl ?_ | refine k_move rfl rfl rfl ?_ | refine k_assign rfl rfl rfl ?_ | refine k_pick rfl rfl rfl rfl ?_ | refine k_field rfl rfl rfl rfl ?_ | refine k_load rfl rfl rfl ‹_› ‹_› ?_ | refine k_load4 rfl rfl rfl rfl ‹_› ‹_› ?_ | refine k_lenI rfl rfl rfl rfl rfl rfl ‹_› ?_ | refine qT rfl ?_ | refine qF rfl ?_ | apply qR | apply qS | apply qK | apply qE | apply qB | refine wp_scope ?_ | refine wp_label ?_)
     refine k_loudSkip rfl rfl k11 ?_
     refine k_loudSkip rfl rfl k11 ?_
     refine k_loudSkip rfl rfl k11 ?_
     repeat (first | apply qN | refine zq1 rfl rfl ?_ | refine qM rfl rfl ?_ | refine zq4 rfl rfl rfl rfl (inc (by omega)) ?_ | refine zqa rfl rfl rfl ?_ | refine zq5 rfl rfl rfl rfl rfl ‹_› ?_ | refine zq6 rfl rfl ‹_› ?_ | refine zqb rfl rfl rfl ‹_› ?_ | refine zq7 rfl rfl rfl ?_ | refine zq8 rfl rfl rfl ?_ | refine zq9 rfl rfl rfl rfl ?_ | refine k_nil ?_ | refine k_skip rfl rfl ?_ | refine k_move rfl rfl rfl ?_ | refine k_assign rfl rfl rfl ?_ | refine k_pick rfl rfl rfl rfl ?_ | refine k_field rfl rfl rfl rfl ?_ | refine k_load rfl rfl rfl ‹_› ‹_› ?_ | refine k_load4 rfl rfl rfl rfl ‹_› ‹_› ?_ | refine k_lenI rfl rfl rfl rfl rfl rfl ‹_› ?_ | refine qT rfl ?_ | refine qF rfl ?_ | apply qR | apply qS | apply qK | apply qE | apply qB | refine wp_scope ?_ | refine wp_label ?_)
     refine k_bin (op := .neq) (v := .bool true) rfl rfl rfl rfl rfl (by simp [binI]; omega) ?_
     refine k_move rfl rfl rfl ?_
     refine k_field rfl rfl rfl rfl ?_
     refine k_load rfl rfl rfl sp0 (M _) ?_
     refine k_lenI rfl rfl rfl rfl rfl rfl hp11 ?_
     refine k_field rfl rfl rfl rfl ?_
     refine k_load rfl rfl rfl sp1 (M _) ?_
     refine k_loud rfl rfl (o_lenI rfl rfl rfl rfl rfl (hq11.keep hq10.old k11) ⟨k11, ?_⟩)
     refine k_bin (op := .add) (v := .int .i64 0) rfl rfl rfl rfl rfl rfl ?_
     refine k_bin (op := .neq) (v := .bool false) rfl rfl rfl rfl rfl rfl ?_
     repeat (first | apply qN | refine zq1 rfl rfl ?_ | refine qM rfl rfl ?_ | refine zq4 rfl rfl rfl rfl (inc (by omega)) ?_ | refine zqa rfl rfl rfl ?_ | refine zq5 rfl rfl rfl rfl rfl ‹_› ?_ | refine zq6 rfl rfl ‹_› ?_ | refine zqb rfl rfl rfl ‹_› ?_ | refine zq7 rfl rfl rfl ?_ | refine zq8 rfl rfl rfl ?_ | refine zq9 rfl rfl rfl rfl ?_ | refine k_nil ?_ | refine k_skip rfl rfl ?_ | refine k_move rfl rfl rfl ?_ | refine k_assign rfl rfl rfl ?_ | refine k_pick rfl rfl rfl rfl ?_ | refine k_field rfl rfl rfl rfl ?_ | refine k_load rfl rfl rfl ‹_› ‹_› ?_ | refine k_load4 rfl rfl rfl rfl ‹_› ‹_› ?_ | refine k_lenI rfl rfl rfl rfl rfl rfl ‹_› ?_ | refine qT rfl ?_ | refine qF rfl ?_ | apply qR | apply qS | apply qK | apply qE | apply qB | refine wp_scope ?_ | refine wp_label ?_)
     exact ⟨k11, by omega, [_,_,_,_,_,_,_,_,_,_,_,_,_,_,_,_,_,_,_,_,_,_,_,_,_,_,_,_,_,_,_,_,_,_,_,_,_,_,_,_,_,_,_,_,_,_,_,_,_,_,_,_,_,_,_,_,_,_,_,_,_,_,_,_,_,_,_,_,_,_,_,_,_,_,_,_,_,_,_,_,_,_,_,_,_,_,_,_,_,_,_,_,_,_,_,_,_,_,_,_,_,_,_,_,_,_,_,_,_,_,_,_,_,_,_,_,_,_,_,_,_,_,_,_,_,_,_,_,_,_,_,_,_,_,_,_,_,_,_,_,_,_,_,_], rfl⟩
 rintro T' H11 ⟨k11, n11, Y, rfl⟩
 have hE11 := hE10.keep k11
 have gl11 : H11.gl = H.gl := k11.gl.trans gl10
 have n11' : H11.next ≤ 6000 := by omega
 clear hE10 gl10 hp10 hq10 b10 k11 n11 n10' spq hs1 hs2 hSl hSlt10
 have c4 := hE11.b4
 have c5 := hE11.b5
 show Wp _ _ _ _ _ _ _ _
 repeat (first | apply qN | refine zq1 rfl rfl ?_ | refine qM rfl rfl ?_ | refine zq4 rfl rfl rfl rfl (inc (by omega)) ?_ | refine zqa rfl rfl rfl ?_ | refine zq5 rfl rfl rfl rfl rfl ‹_› ?_ | refine zq6 rfl rfl ‹_› ?_ | refine zqb rfl rfl rfl ‹_› ?_ | refine zq7 rfl rfl rfl ?_ | refine zq8 rfl rfl rfl ?_ | refine zq9 rfl rfl rfl rfl ?_ | refine k_nil ?_ | refine k_skip rfl rfl ?_ | refine k_move rfl rfl rfl ?_ | refine k_assign rfl rfl rfl ?_ | refine k_pick rfl rfl rfl rfl ?_ | refine k_field rfl rfl rfl rfl ?_ | refine k_load rfl rfl rfl ‹_› ‹_› ?_ | refine k_load4 rfl rfl rfl rfl ‹_› ‹_› ?_ | refine k_lenI rfl rfl rfl rfl rfl rfl ‹_› ?_ | refine qT rfl ?_ | refine qF rfl ?_ | apply qR | apply qS | apply qK | apply qE | apply qB | refine wp_scope ?_ | refine wp_label ?_)
 refine WOps.cut (fun T => ∃ Y : List AV, T = (lget Y 0 :: lget Y 1 :: lget Y 2 :: .ptr R0 0 :: .ptr R1 0 :: .ptr R2 0 :: lget Y 3 :: .ptr A 0 :: .ptr B 0 :: .ptr C 0 :: lget Y 4 :: lget Y 5 :: lget Y 6 :: lget Y 7 :: lget Y 8 :: lget Y 9 :: lget Y 10 :: lget Y 11 :: lget Y 12 :: lget Y 13 :: lget Y 14 :: lget Y 15 :: lget Y 16 :: lget Y 17 :: lget Y 18 :: lget Y 19 :: lget Y 20 :: lget Y 21 :: lget Y 22 :: lget Y 23 :: lget Y 24 :: lget Y 25 :: lget Y 26 :: lget Y 27 :: lget Y 28 :: lget Y 29 :: lget Y 30 :: lget Y 31 :: lget Y 32 :: lget Y 33 :: lget Y 34 :: lget Y 35 :: lget Y 36 :: lget Y 37 :: lget Y 38 :: lget Y 39 :: lget Y 40 :: lget Y 41 :: lget Y 42 :: lget Y 43 :: lget Y 44 :: lget Y 45 :: lget Y 46 :: lget Y 47 :: lget Y 48 :: lget Y 49 :: lget Y 50 :: lget Y 51 :: lget Y 52 :: lget Y 53 :: lget Y 54 :: lget Y 55 :: lget Y 56 :: lget Y 57 :: lget Y 58 :: lget Y 59 :: lget Y 60 :: lget Y 61 :: lget Y 62 :: lget Y 63 :: lget Y 64 :: lget Y 65 :: .agg r.cs :: .agg [.v x, .v y] :: lget Y 66 :: lget Y 67 :: lget Y 68 :: lget Y 69 :: lget Y 70 :: lget Y 71 :: lget Y 72 :: lget Y 73 :: lget Y 74 :: lget Y 75 :: lget Y 76 :: lget Y 77 :: lget Y 78 :: lget Y 79 :: lget Y 80 :: lget Y 81 :: lget Y 82 :: lget Y 83 :: lget Y 84 :: lget Y 85 :: lget Y 86 :: lget Y 87 :: lget Y 88 :: lget Y 89 :: lget Y 90 :: lget Y 91 :: lget Y 92 :: lget Y 93 :: lget Y 94 :: lget Y 95 :: lget Y 96 :: lget Y 97 :: lget Y 98 :: lget Y 99 :: lget Y 100 :: lget Y 101 :: lget Y 102 :: lget Y 103 :: lget Y 104 :: lget Y 105 :: lget Y 106 :: lget Y 107 :: lget Y 108 :: lget Y 109 :: lget Y 110 :: lget Y 111 :: lget Y 112 :: lget Y 113 :: lget Y 114 :: lget Y 115 :: lget Y 116 :: lget Y 117 :: lget Y 118 :: lget Y 119 :: lget Y 120 :: lget Y 121 :: lget Y 122 :: lget Y 123 :: lget Y 124 :: lget Y 125 :: lget Y 126 :: lget Y 127 :: lget Y 128 :: lget Y 129 :: lget Y 130 :: lget Y 131 :: lget Y 132 :: lget Y 133 :: lget Y 134 :: lget Y 135 :: lget Y 136 :: lget Y 137 :: lget Y 138 :: lget Y 139 :: lget Y 140 :: lget Y 141 :: lget Y 142 :: lget Y 143 :: lget Y 144 :: lget Y 145 :: [])) ⟨[_,_,_,_,_,_,_,_,_,_,_,_,_,_,_,_,_,_,_,_,_,_,_,_,_,_,_,_,_,_,_,_,_,_,_,_,_,_,_,_,_,_,_,_,_,_,_,_,_,_,_,_,_,_,_,_,_,_,_,_,_,_,_,_,_,_,_,_,_,_,_,_,_,_,_,_,_,_,_,_,_,_,_,_,_,_,_,_,_,_,_,_,_,_,_,_,_,_,_,_,_,_,_,_,_,_,_,_,_,_,_,_,_,_,_,_,_,_,_,_,_,_,_,_,_,_,_,_,_,_,_,_,_,_,_,_,_,_,_,_,_,_,_,_,_,_], rfl⟩ ?_
 rintro T ⟨Y, rfl⟩
 refine wops_cons (wop_callF rfl rfl rfl (fn := Tryz.f17) (by rfl) ?_)
 refine c17 hq H11 r _ rfl _ _ tk gp hE11.x hE11.y hlt hlg (by omega) _ fun H12 k12 n12 => ⟨k12.nx, ?_⟩
 have hE12 := hE11.keep k12
 have gl12 : H12.gl = H.gl := k12.gl.trans gl11
 have n12' : H12.next ≤ 6010 := by omega
 clear hE11 gl11 k12 n12 n11' c4 c5
 have c1 := hE12.b1
 have c2 := hE12.b2
 repeat (first | apply qN | refine zq1 rfl rfl ?_ | refine qM rfl rfl ?_ | refine zq4 rfl rfl rfl rfl (inc (by omega)) ?_ | refine zqa rfl rfl rfl ?_ | refine zq5 rfl rfl rfl rfl rfl ‹_› ?_ | refine zq6 rfl rfl ‹_› ?_ | refine zqb rfl rfl rfl ‹_› ?_ | refine zq7 rfl rfl rfl ?_ | refine zq8 rfl rfl rfl ?_ | refine zq9 rfl rfl rfl rfl ?_ | refine k_nil ?_ | refine k_skip rfl rfl ?_ | refine k_move rfl rfl rfl ?_ | refine k_assign rfl rfl rfl ?_ | refine k_pick rfl rfl rfl rfl ?_ | refine k_field rfl rfl rfl rfl ?_ | refine k_load rfl rfl rfl ‹_› ‹_› ?_ | refine k_load4 rfl rfl rfl rfl ‹_› ‹_› ?_ | refine k_lenI rfl rfl rfl rfl rfl rfl ‹_› ?_ | refine qT rfl ?_ | refine qF rfl ?_ | apply qR | apply qS | apply qK | apply qE | apply qB | refine wp_scope ?_ | refine wp_label ?_)
 refine WOps.cut (fun T => ∃ Y : List AV, T = (lget Y 0 :: lget Y 1 :: lget Y 2 :: .ptr R0 0 :: .ptr R1 0 :: .ptr R2 0 :: lget Y 3 :: .ptr A 0 :: .ptr B 0 :: .ptr C 0 :: lget Y 4 :: lget Y 5 :: iv (staE r tk gp) :: lget Y 6 :: lget Y 7 :: lget Y 8 :: lget Y 9 :: lget Y 10 :: lget Y 11 :: lget Y 12 :: lget Y 13 :: lget Y 14 :: lget Y 15 :: lget Y 16 :: lget Y 17 :: lget Y 18 :: lget Y 19 :: lget Y 20 :: lget Y 21 :: lget Y 22 :: lget Y 23 :: lget Y 24 :: lget Y 25 :: lget Y 26 :: lget Y 27 :: lget Y 28 :: lget Y 29 :: lget Y 30 :: lget Y 31 :: lget Y 32 :: lget Y 33 :: lget Y 34 :: lget Y 35 :: lget Y 36 :: lget Y 37 :: lget Y 38 :: lget Y 39 :: lget Y 40 :: lget Y 41 :: lget Y 42 :: lget Y 43 :: lget Y 44 :: lget Y 45 :: lget Y 46 :: lget Y 47 :: lget Y 48 :: lget Y 49 :: lget Y 50 :: lget Y 51 :: lget Y 52 :: lget Y 53 :: lget Y 54 :: lget Y 55 :: lget Y 56 :: lget Y 57 :: lget Y 58 :: lget Y 59 :: lget Y 60 :: lget Y 61 :: lget Y 62 :: lget Y 63 :: lget Y 64 :: lget Y 65 :: lget Y 66 :: lget Y 67 :: .agg r.cs :: .agg [.v x, .v y] :: lget Y 68 :: lget Y 69 :: lget Y 70 :: lget Y 71 :: lget Y 72 :: lget Y 73 :: lget Y 74 :: lget Y 75 :: lget Y 76 :: lget Y 77 :: lget Y 78 :: lget Y 79 :: lget Y 80 :: lget Y 81 :: lget Y 82 :: lget Y 83 :: lget Y 84 :: lget Y 85 :: lget Y 86 :: lget Y 87 :: lget Y 88 :: lget Y 89 :: lget Y 90 :: lget Y 91 :: lget Y 92 :: lget Y 93 :: lget Y 94 :: lget Y 95 :: lget Y 96 :: lget Y 97 :: lget Y 98 :: lget Y 99 :: lget Y 100 :: lget Y 101 :: lget Y 102 :: lget Y 103 :: lget Y 104 :: lget Y 105 :: lget Y 106 :: lget Y 107 :: lget Y 108 :: lget Y 109 :: lget Y 110 :: lget Y 111 :: lget Y 112 :: lget Y 113 :: lget Y 114 :: lget Y 115 :: lget Y 116 :: lget Y 117 :: lget Y 118 :: lget Y 119 :: lget Y 120 :: lget Y 121 :: lget Y 122 :: lget Y 123 :: lget Y 124 :: lget Y 125 :: lget Y 126 :: lget Y 127 :: lget Y 128 :: lget Y 129 :: lget Y 130 :: lget Y 131 :: lget Y 132 :: lget Y 133 :: lget Y 134 :: lget Y 135 :: lget Y 136 :: lget Y 137 :: lget Y 138 :: lget Y 139 :: lget Y 140 :: lget Y 141 :: lget Y 142 :: lget Y 143 :: lget Y 144 :: [])) ⟨[_,_,_,_,_,_,_,_,_,_,_,_,_,_,_,_,_,_,_,_,_,_,_,_,_,_,_,_,_,_,_,_,_,_,_,_,_,_,_,_,_,_,_,_,_,_,_,_,_,_,_,_,_,_,_,_,_,_,_,_,_,_,_,_,_,_,_,_,_,_,_,_,_,_,_,_,_,_,_,_,_,_,_,_,_,_,_,_,_,_,_,_,_,_,_,_,_,_,_,_,_,_,_,_,_,_,_,_,_,_,_,_,_,_,_,_,_,_,_,_,_,_,_,_,_,_,_,_,_,_,_,_,_,_,_,_,_,_,_,_,_,_,_,_,_], rfl⟩ ?_
 rintro T ⟨Y, rfl⟩
 refine wops_cons (wop_callF rfl rfl rfl (fn := Tryz.f18) (by rfl) ?_)
 refine c18 hq H12 r _ rfl _ _ tk gp hE12.x hE12.y hlt hlg (by omega) _ fun H13 k13 n13 => ⟨k13.nx, ?_⟩
 have hE13 := hE12.keep k13
 have gl13 : H13.gl = H.gl := k13.gl.trans gl12
 have n13' : H13.next ≤ 16000 := by omega
 clear hE12 gl12 k13 n13 n12' c1 c2
 repeat (first | apply qN | refine zq1 rfl rfl ?_ | refine qM rfl rfl ?_ | refine zq4 rfl rfl rfl rfl (inc (by omega)) ?_ | refine zqa rfl rfl rfl ?_ | refine zq5 rfl rfl rfl rfl rfl ‹_› ?_ | refine zq6 rfl rfl ‹_› ?_ | refine zqb rfl rfl rfl ‹_› ?_ | refine zq7 rfl rfl rfl ?_ | refine zq8 rfl rfl rfl ?_ | refine zq9 rfl rfl rfl rfl ?_ | refine k_nil ?_ | refine k_skip rfl rfl ?_ | refine k_move rfl rfl rfl ?_ | refine k_assign rfl rfl rfl ?_ | refine k_pick rfl rfl rfl rfl ?_ | refine k_field rfl rfl rfl rfl ?_ | refine k_load rfl rfl rfl ‹_› ‹_› ?_ | refine k_load4 rfl rfl rfl rfl ‹_› ‹_› ?_ | refine k_lenI rfl rfl rfl rfl rfl rfl ‹_› ?_ | refine qT rfl ?_ | refine qF rfl ?_ | apply qR | apply qS | apply qK | apply qE | apply qB | refine wp_scope ?_ | refine wp_label ?_)
 refine wops_cons (wop_bin (op := .neq) (v := .bool false) rfl rfl rfl rfl (by generalize staE r tk gp = w; simp [binI]) ?_)
 have c1 := hE13.b1
 have c2 := hE13.b2
 have c3 := hE13.b3
 repeat (first | apply qN | refine zq1 rfl rfl ?_ | refine qM rfl rfl ?_ | refine zq4 rfl rfl rfl rfl (inc (by omega)) ?_ | refine zqa rfl rfl rfl ?_ | refine zq5 rfl rfl rfl rfl rfl ‹_› ?_ | refine zq6 rfl rfl ‹_› ?_ | refine zqb rfl rfl rfl ‹_› ?_ | refine zq7 rfl rfl rfl ?_ | refine zq8 rfl rfl rfl ?_ | refine zq9 rfl rfl rfl rfl ?_ | refine k_nil ?_ | refine k_skip rfl rfl ?_ | refine k_move rfl rfl rfl ?_ | refine k_assign rfl rfl rfl ?_ | refine k_pick rfl rfl rfl rfl ?_ | refine k_field rfl rfl rfl rfl ?_ | refine k_load rfl rfl rfl ‹_› ‹_› ?_ | refine k_load4 rfl rfl rfl rfl ‹_› ‹_› ?_ | refine k_lenI rfl rfl rfl rfl rfl rfl ‹_› ?_ | refine qT rfl ?_ | refine qF rfl ?_ | apply qR | apply qS | apply qK | apply qE | apply qB | refine wp_scope ?_ | refine wp_label ?_)
 refine WOps.cut (fun T => ∃ Y : List AV, T = (lget Y 0 :: lget Y 1 :: lget Y 2 :: .ptr R0 0 :: .ptr R1 0 :: .ptr R2 0 :: lget Y 3 :: .ptr A 0 :: .ptr B 0 :: .ptr C 0 :: lget Y 4 :: lget Y 5 :: iv (staE r tk gp) :: lget Y 6 :: lget Y 7 :: lget Y 8 :: lget Y 9 :: lget Y 10 :: lget Y 11 :: lget Y 12 :: lget Y 13 :: lget Y 14 :: lget Y 15 :: lget Y 16 :: lget Y 17 :: lget Y 18 :: lget Y 19 :: lget Y 20 :: lget Y 21 :: lget Y 22 :: lget Y 23 :: lget Y 24 :: lget Y 25 :: lget Y 26 :: lget Y 27 :: lget Y 28 :: lget Y 29 :: lget Y 30 :: lget Y 31 :: lget Y 32 :: lget Y 33 :: lget Y 34 :: lget Y 35 :: lget Y 36 :: lget Y 37 :: lget Y 38 :: lget Y 39 :: lget Y 40 :: lget Y 41 :: lget Y 42 :: lget Y 43 :: lget Y 44 :: lget Y 45 :: lget Y 46 :: lget Y 47 :: lget Y 48 :: lget Y 49 :: lget Y 50 :: lget Y 51 :: lget Y 52 :: lget Y 53 :: lget Y 54 :: lget Y 55 :: lget Y 56 :: lget Y 57 :: lget Y 58 :: lget Y 59 :: lget Y 60 :: lget Y 61 :: lget Y 62 :: lget Y 63 :: lget Y 64 :: lget Y 65 :: lget Y 66 :: lget Y 67 :: lget Y 68 :: lget Y 69 :: lget Y 70 :: lget Y 71 :: lget Y 72 :: lget Y 73 :: .agg r.cs :: .agg [.v x, .v y] :: .agg k.cs :: lget Y 74 :: lget Y 75 :: lget Y 76 :: lget Y 77 :: lget Y 78 :: lget Y 79 :: lget Y 80 :: lget Y 81 :: lget Y 82 :: lget Y 83 :: lget Y 84 :: lget Y 85 :: lget Y 86 :: lget Y 87 :: lget Y 88 :: lget Y 89 :: lget Y 90 :: lget Y 91 :: lget Y 92 :: lget Y 93 :: lget Y 94 :: lget Y 95 :: lget Y 96 :: lget Y 97 :: lget Y 98 :: lget Y 99 :: lget Y 100 :: lget Y 101 :: lget Y 102 :: lget Y 103 :: lget Y 104 :: lget Y 105 :: lget Y 106 :: lget Y 107 :: lget Y 108 :: lget Y 109 :: lget Y 110 :: lget Y 111 :: lget Y 112 :: lget Y 113 :: lget Y 114 :: lget Y 115 :: lget Y 116 :: lget Y 117 :: lget Y 118 :: lget Y 119 :: lget Y 120 :: lget Y 121 :: lget Y 122 :: lget Y 123 :: lget Y 124 :: lget Y 125 :: lget Y 126 :: lget Y 127 :: lget Y 128 :: lget Y 129 :: lget Y 130 :: lget Y 131 :: lget Y 132 :: lget Y 133 :: lget Y 134 :: lget Y 135 :: lget Y 136 :: lget Y 137 :: lget Y 138 :: lget Y 139 :: lget Y 140 :: lget Y 141 :: lget Y 142 :: lget Y 143 :: [])) ⟨[_,_,_,_,_,_,_,_,_,_,_,_,_,_,_,_,_,_,_,_,_,_,_,_,_,_,_,_,_,_,_,_,_,_,_,_,_,_,_,_,_,_,_,_,_,_,_,_,_,_,_,_,_,_,_,_,_,_,_,_,_,_,_,_,_,_,_,_,_,_,_,_,_,_,_,_,_,_,_,_,_,_,_,_,_,_,_,_,_,_,_,_,_,_,_,_,_,_,_,_,_,_,_,_,_,_,_,_,_,_,_,_,_,_,_,_,_,_,_,_,_,_,_,_,_,_,_,_,_,_,_,_,_,_,_,_,_,_,_,_,_,_,_,_], rfl⟩ ?_
 rintro T ⟨Y, rfl⟩
 refine wops_cons (wop_callF rfl rfl rfl (fn := Tryz.f19) (by rfl) ?_)
 refine c19' hq H13 r k _ _ _ _ tk gp rfl rfl hE13.x hE13.y hlt hlg (by omega) _ fun H14 k14 n14 => ⟨k14.nx, ?_⟩
 have hE14 := hE13.keep k14
 have gl14 : H14.gl = H.gl := k14.gl.trans gl13
 have n14' : H14.next ≤ 26000 := by omega
 clear hE13 gl13 k14 n14 n13' c1 c2 c3
 have c1 := hE14.b1
 have c2 := hE14.b2
 have c3 := hE14.b3
 repeat (first | apply qN | refine zq1 rfl rfl ?_ | refine qM rfl rfl ?_ | refine zq4 rfl rfl rfl rfl (inc (by omega)) ?_ | refine zqa rfl rfl rfl ?_ | refine zq5 rfl rfl rfl rfl rfl ‹_› ?_ | refine zq6 rfl rfl ‹_› ?_ | refine zqb rfl rfl rfl ‹_› ?_ | refine zq7 rfl rfl rfl ?_ | refine zq8 rfl rfl rfl ?_ | refine zq9 rfl rfl rfl rfl ?_ | refine k_nil ?_ | refine k_skip rfl rfl ?_ | refine k_move rfl rfl rfl ?_ | refine k_assign rfl rfl rfl ?_ | refine k_pick rfl rfl rfl rfl ?_ | refine k_field rfl rfl rfl rfl ?_ | refine k_load rfl rfl rfl ‹_› ‹_› ?_ | refine k_load4 rfl rfl rfl rfl ‹_› ‹_› ?_ | refine k_lenI rfl rfl rfl rfl rfl rfl ‹_› ?_ | refine qT rfl ?_ | refine qF rfl ?_ | apply qR | apply qS | apply qK | apply qE | apply qB | refine wp_scope ?_ | refine wp_label ?_)
 refine WOps.cut (fun T => ∃ Y : List AV, T = (lget Y 0 :: lget Y 1 :: lget Y 2 :: .ptr R0 0 :: .ptr R1 0 :: .ptr R2 0 :: lget Y 3 :: .ptr A 0 :: .ptr B 0 :: .ptr C 0 :: lget Y 4 :: lget Y 5 :: iv (staE r tk gp) :: iv (lgX r tk gp k) :: iv (errE r tk gp k) :: lget Y 6 :: lget Y 7 :: lget Y 8 :: lget Y 9 :: lget Y 10 :: lget Y 11 :: lget Y 12 :: lget Y 13 :: lget Y 14 :: lget Y 15 :: lget Y 16 :: lget Y 17 :: lget Y 18 :: lget Y 19 :: lget Y 20 :: lget Y 21 :: lget Y 22 :: lget Y 23 :: lget Y 24 :: lget Y 25 :: lget Y 26 :: lget Y 27 :: lget Y 28 :: lget Y 29 :: lget Y 30 :: lget Y 31 :: lget Y 32 :: lget Y 33 :: lget Y 34 :: lget Y 35 :: lget Y 36 :: lget Y 37 :: lget Y 38 :: lget Y 39 :: lget Y 40 :: lget Y 41 :: lget Y 42 :: lget Y 43 :: lget Y 44 :: lget Y 45 :: lget Y 46 :: lget Y 47 :: lget Y 48 :: lget Y 49 :: lget Y 50 :: lget Y 51 :: lget Y 52 :: lget Y 53 :: lget Y 54 :: lget Y 55 :: lget Y 56 :: lget Y 57 :: lget Y 58 :: lget Y 59 :: lget Y 60 :: lget Y 61 :: lget Y 62 :: lget Y 63 :: lget Y 64 :: lget Y 65 :: lget Y 66 :: lget Y 67 :: lget Y 68 :: lget Y 69 :: lget Y 70 :: lget Y 71 :: lget Y 72 :: lget Y 73 :: lget Y 74 :: lget Y 75 :: lget Y 76 :: lget Y 77 :: lget Y 78 :: .agg r.cs :: .agg [.v x, .v y] :: .agg k.cs :: lget Y 79 :: lget Y 80 :: lget Y 81 :: lget Y 82 :: lget Y 83 :: lget Y 84 :: lget Y 85 :: lget Y 86 :: lget Y 87 :: lget Y 88 :: lget Y 89 :: lget Y 90 :: lget Y 91 :: lget Y 92 :: lget Y 93 :: lget Y 94 :: lget Y 95 :: lget Y 96 :: lget Y 97 :: lget Y 98 :: lget Y 99 :: lget Y 100 :: lget Y 101 :: lget Y 102 :: lget Y 103 :: lget Y 104 :: lget Y 105 :: lget Y 106 :: lget Y 107 :: lget Y 108 :: lget Y 109 :: lget Y 110 :: lget Y 111 :: lget Y 112 :: lget Y 113 :: lget Y 114 :: lget Y 115 :: lget Y 116 :: lget Y 117 :: lget Y 118 :: lget Y 119 :: lget Y 120 :: lget Y 121 :: lget Y 122 :: lget Y 123 :: lget Y 124 :: lget Y 125 :: lget Y 126 :: lget Y 127 :: lget Y 128 :: lget Y 129 :: lget Y 130 :: lget Y 131 :: lget Y 132 :: lget Y 133 :: lget Y 134 :: lget Y 135 :: lget Y 136 :: lget Y 137 :: lget Y 138 :: lget Y 139 :: lget Y 140 :: lget Y 141 :: [])) ⟨[_,_,_,_,_,_,_,_,_,_,_,_,_,_,_,_,_,_,_,_,_,_,_,_,_,_,_,_,_,_,_,_,_,_,_,_,_,_,_,_,_,_,_,_,_,_,_,_,_,_,_,_,_,_,_,_,_,_,_,_,_,_,_,_,_,_,_,_,_,_,_,_,_,_,_,_,_,_,_,_,_,_,_,_,_,_,_,_,_,_,_,_,_,_,_,_,_,_,_,_,_,_,_,_,_,_,_,_,_,_,_,_,_,_,_,_,_,_,_,_,_,_,_,_,_,_,_,_,_,_,_,_,_,_,_,_,_,_,_,_,_,_], rfl⟩ ?_
 rintro T ⟨Y, rfl⟩
 refine wops_cons (wop_callF rfl rfl rfl (fn := Tryz.f20) (by rfl) ?_)
 refine c20' hq H14 r k _ _ x y tk gp rfl rfl hE14.x hE14.y hlt hlg (by omega) _ fun H15 p2 q2 tkN gpN k15 n15 hp hq' hs1 hs2 => ⟨k15.nx, ?_⟩
 have hE15 := hE14.keep k15
 have gl15 : H15.gl = H.gl := k15.gl.trans gl14
 have n15' : H15.next ≤ 40000 := by omega
 clear hE14 gl14 k15 n15 n14' c1 c2 c3
 have r15 : H15.next < 2 ^ 59 := by omega
 repeat (first | apply qN | refine zq1 rfl rfl ?_ | refine qM rfl rfl ?_ | refine zq4 rfl rfl rfl rfl (inc (by omega)) ?_ | refine zqa rfl rfl rfl ?_ | refine zq5 rfl rfl rfl rfl rfl ‹_› ?_ | refine zq6 rfl rfl ‹_› ?_ | refine zqb rfl rfl rfl ‹_› ?_ | refine zq7 rfl rfl rfl ?_ | refine zq8 rfl rfl rfl ?_ | refine zq9 rfl rfl rfl rfl ?_ | refine k_nil ?_ | refine k_skip rfl rfl ?_ | refine k_move rfl rfl rfl ?_ | refine k_assign rfl rfl rfl ?_ | refine k_pick rfl rfl rfl rfl ?_ | refine k_field rfl rfl rfl rfl ?_ | refine k_load rfl rfl rfl ‹_› ‹_› ?_ | refine k_load4 rfl rfl rfl rfl ‹_› ‹_› ?_ | refine k_lenI rfl rfl rfl rfl rfl rfl ‹_› ?_ | refine qT rfl ?_ | refine qF rfl ?_ | apply qR | apply qS | apply qK | apply qE | apply qB | refine wp_scope ?_ | refine wp_label ?_)
 refine wops_cons (o_allocA (zs := [.v (.slice none 0 0), .v (.slice none 0 0)]) rfl rfl (z := .agg #[.slice none 0 0, .slice none 0 0]) (by kernel_rfl) rfl r15 ?_)
 refine wops_cons (o_storeA (n := 2) (vs := [p2, q2]) rfl rfl (by kernel_rfl) rfl rfl rfl (by simp [hp.sl.one, hq'.sl.one]) (get_add_eq r15) (Nat.le_refl _) ?_)
 refine WOps.mem (fun H16 => Keeps H15 H16 ∧ H16.next = H15.next + 1 ∧ Bk H16 H15.next 26 [p2, q2]) ⟨((Keeps.refl H15).add _ r15).set _ (Nat.le_refl _) r15, rfl, ⟨r15, get_set_eq r15⟩⟩ ?_
 rintro H16 ⟨k16, n16, b16⟩
 have hE16 := hE15.keep k16
 have gl16 : H16.gl = H.gl := k16.gl.trans gl15
 have n16' : H16.next ≤ 40001 := by omega
 have hp16 := hp.keep k16
 have hq16 := hq'.keep k16
 clear hE15 gl15 hp hq'
 generalize hSS : H15.next = S2 at b16 n16 ⊢
 have hSlt : S2 < H16.next := by omega
 clear k16 hSS n16 n15' r15
 show WOps _ _ _ _ _ _
 repeat (first | apply qN | refine zq1 rfl rfl ?_ | refine qM rfl rfl ?_ | refine zq4 rfl rfl rfl rfl (inc (by omega)) ?_ | refine zqa rfl rfl rfl ?_ | refine zq5 rfl rfl rfl rfl rfl ‹_› ?_ | refine zq6 rfl rfl ‹_› ?_ | refine zqb rfl rfl rfl ‹_› ?_ | refine zq7 rfl rfl rfl ?_ | refine zq8 rfl rfl rfl ?_ | refine zq9 rfl rfl rfl rfl ?_ | refine k_nil ?_ | refine k_skip rfl rfl ?_ | refine k_move rfl rfl rfl ?_ | refine k_assign rfl rfl rfl ?_ | refine k_pick rfl rfl rfl rfl ?_ | refine k_field rfl rfl rfl rfl ?_ | refine k_load rfl rfl rfl ‹_› ‹_› ?_ | refine k_load4 rfl rfl rfl rfl ‹_› ‹_› ?_ | refine k_lenI rfl rfl rfl rfl rfl rfl ‹_› ?_ | refine qT rfl ?_ | refine qF rfl ?_ | apply qR | apply qS | apply qK | apply qE | apply qB | refine wp_scope ?_ | refine wp_label ?_)
 refine WOps.cut (fun T => ∃ Y : List AV, T = (lget Y 0 :: lget Y 1 :: lget Y 2 :: .ptr R0 0 :: .ptr R1 0 :: .ptr R2 0 :: lget Y 3 :: .ptr A 0 :: .ptr B 0 :: .ptr C 0 :: lget Y 4 :: lget Y 5 :: iv (staE r tk gp) :: iv (lgX r tk gp k) :: iv (errE r tk gp k) :: .ptr S2 0 :: iv (nxtE r tk gp k) :: lget Y 6 :: lget Y 7 :: lget Y 8 :: lget Y 9 :: lget Y 10 :: lget Y 11 :: lget Y 12 :: lget Y 13 :: lget Y 14 :: lget Y 15 :: lget Y 16 :: lget Y 17 :: lget Y 18 :: lget Y 19 :: lget Y 20 :: lget Y 21 :: lget Y 22 :: lget Y 23 :: lget Y 24 :: lget Y 25 :: lget Y 26 :: lget Y 27 :: lget Y 28 :: lget Y 29 :: lget Y 30 :: lget Y 31 :: lget Y 32 :: lget Y 33 :: lget Y 34 :: lget Y 35 :: lget Y 36 :: lget Y 37 :: lget Y 38 :: lget Y 39 :: lget Y 40 :: lget Y 41 :: lget Y 42 :: lget Y 43 :: lget Y 44 :: lget Y 45 :: lget Y 46 :: lget Y 47 :: lget Y 48 :: lget Y 49 :: lget Y 50 :: lget Y 51 :: lget Y 52 :: lget Y 53 :: lget Y 54 :: lget Y 55 :: lget Y 56 :: lget Y 57 :: lget Y 58 :: lget Y 59 :: lget Y 60 :: lget Y 61 :: lget Y 62 :: lget Y 63 :: lget Y 64 :: lget Y 65 :: lget Y 66 :: lget Y 67 :: lget Y 68 :: lget Y 69 :: lget Y 70 :: lget Y 71 :: lget Y 72 :: lget Y 73 :: lget Y 74 :: lget Y 75 :: lget Y 76 :: lget Y 77 :: lget Y 78 :: lget Y 79 :: lget Y 80 :: lget Y 81 :: lget Y 82 :: iv (staE r tk gp) :: lget Y 83 :: lget Y 84 :: lget Y 85 :: lget Y 86 :: lget Y 87 :: lget Y 88 :: lget Y 89 :: lget Y 90 :: lget Y 91 :: lget Y 92 :: lget Y 93 :: lget Y 94 :: lget Y 95 :: lget Y 96 :: lget Y 97 :: lget Y 98 :: lget Y 99 :: lget Y 100 :: lget Y 101 :: lget Y 102 :: lget Y 103 :: lget Y 104 :: lget Y 105 :: lget Y 106 :: lget Y 107 :: lget Y 108 :: lget Y 109 :: lget Y 110 :: lget Y 111 :: lget Y 112 :: lget Y 113 :: lget Y 114 :: lget Y 115 :: lget Y 116 :: lget Y 117 :: lget Y 118 :: lget Y 119 :: lget Y 120 :: lget Y 121 :: lget Y 122 :: lget Y 123 :: lget Y 124 :: lget Y 125 :: lget Y 126 :: lget Y 127 :: lget Y 128 :: lget Y 129 :: lget Y 130 :: lget Y 131 :: lget Y 132 :: lget Y 133 :: lget Y 134 :: lget Y 135 :: lget Y 136 :: lget Y 137 :: lget Y 138 :: lget Y 139 :: lget Y 140 :: lget Y 141 :: [])) ⟨[_,_,_,_,_,_,_,_,_,_,_,_,_,_,_,_,_,_,_,_,_,_,_,_,_,_,_,_,_,_,_,_,_,_,_,_,_,_,_,_,_,_,_,_,_,_,_,_,_,_,_,_,_,_,_,_,_,_,_,_,_,_,_,_,_,_,_,_,_,_,_,_,_,_,_,_,_,_,_,_,_,_,_,_,_,_,_,_,_,_,_,_,_,_,_,_,_,_,_,_,_,_,_,_,_,_,_,_,_,_,_,_,_,_,_,_,_,_,_,_,_,_,_,_,_,_,_,_,_,_,_,_,_,_,_,_,_,_,_,_,_,_], rfl⟩ ?_
 rintro T ⟨Y, rfl⟩
 have k16 := Keeps.refl H16
 have bH16 := b16
 have hpH16 := hp16
 have hqH16 := hq16
 by_cases hst : staE r tk gp = 0
 rotate_left
 · have hee : errE r tk gp k = staE r tk gp := fnz_ne hst
   have hE0 : errE r tk gp k ≠ 0 := by rw [hee]; exact hst
   rw [← hee] at hst ⊢
   refine wops_cons (wop_bin (op := .eql) (v := .bool false) rfl rfl rfl rfl (by generalize errE r tk gp k = w at hst; simp [binI]; omega) ?_)
   repeat (first | apply qN | refine zq1 rfl rfl ?_ | refine qM rfl rfl ?_ | refine zq4 rfl rfl rfl rfl (inc (by omega)) ?_ | refine zqa rfl rfl rfl ?_ | refine zq5 rfl rfl rfl rfl rfl ‹_› ?_ | refine zq6 rfl rfl ‹_› ?_ | refine zqb rfl rfl rfl ‹_› ?_ | refine zq7 rfl rfl rfl ?_ | refine zq8 rfl rfl rfl ?_ | refine zq9 rfl rfl rfl rfl ?_ | refine k_nil ?_ | refine k_skip rfl rfl ?_ | refine k_move rfl rfl rfl ?_ | refine k_assign rfl rfl rfl ?_ | refine k_pick rfl rfl rfl rfl ?_ | refine k_field rfl rfl rfl rfl ?_ | refine k_load rfl rfl rfl ‹_› ‹_› ?_ | refine k_load4 rfl rfl rfl rfl ‹_› ‹_› ?_ | refine k_lenI rfl rfl rfl rfl rfl rfl ‹_› ?_ | refine qT rfl ?_ | refine qF rfl ?_ | apply qR | apply qS | apply qK | apply qE | apply qB | refine wp_scope ?_ | refine wp_label ?_)
   have hn16 := nxtE_err hE0
   rw [hn16] at hs1 ⊢
   obtain ⟨e1, e2⟩ := hs1 hE0
   have hlx : lgX r tk gp k = 0 := by unfold lgX; rw [if_neg hE0]
   have hpn : Sl H16 p2 (ivs []) := by rw [← e1]; exact hpH16.sl
   have hqn : Sl H16 q2 (ivs []) := by rw [← e2]; exact hqH16.sl
   have sp0 : At H16 (.ptr S2 0) p2 := bH16.at rfl
   have sp1 : At H16 (.ptr S2 1) q2 := bH16.at rfl
   rw [hlx]
   generalize errE r tk gp k = w at hE0 ⊢
   refine wops_cons (wop_bin (op := .neq) (v := .bool true) rfl rfl rfl rfl (by simp [binI, hE0]) ?_)
   repeat (first | apply qN | refine zq1 rfl rfl ?_ | refine qM rfl rfl ?_ | refine zq4 rfl rfl rfl rfl (inc (by omega)) ?_ | refine zqa rfl rfl rfl ?_ | refine zq5 rfl rfl rfl rfl rfl ‹_› ?_ | refine zq6 rfl rfl ‹_› ?_ | refine zqb rfl rfl rfl ‹_› ?_ | refine zq7 rfl rfl rfl ?_ | refine zq8 rfl rfl rfl ?_ | refine zq9 rfl rfl rfl rfl ?_ | refine k_nil ?_ | refine k_skip rfl rfl ?_ | refine k_move rfl rfl rfl ?_ | refine k_assign rfl rfl rfl ?_ | refine k_pick rfl rfl rfl rfl ?_ | refine k_field rfl rfl rfl rfl ?_ | refine k_load rfl rfl rfl ‹_› ‹_› ?_ | refine k_load4 rfl rfl rfl rfl ‹_› ‹_› ?_ | refine k_lenI rfl rfl rfl rfl rfl rfl ‹_› ?_ | refine qT rfl ?_ | refine qF rfl ?_ | apply qR | apply qS | apply qK | apply qE | apply qB | refine wp_scope ?_ | refine wp_label ?_)
   refine wops_cons (wop_callF rfl rfl rfl (fn := Tryz.f22) (by rfl) ?_)
   refine c22 hq H16 0 w w 0 _ ⟨Nat.le_refl _, ?_⟩
   rw [show intB 0 w w 0 = true by unfold intB; rw [if_neg hE0]; simp]
   repeat (first | apply qN | refine zq1 rfl rfl ?_ | refine qM rfl rfl ?_ | refine zq4 rfl rfl rfl rfl (inc (by omega)) ?_ | refine zqa rfl rfl rfl ?_ | refine zq5 rfl rfl rfl rfl rfl ‹_› ?_ | refine zq6 rfl rfl ‹_› ?_ | refine zqb rfl rfl rfl ‹_› ?_ | refine zq7 rfl rfl rfl ?_ | refine zq8 rfl rfl rfl ?_ | refine zq9 rfl rfl rfl rfl ?_ | refine k_nil ?_ | refine k_skip rfl rfl ?_ | refine k_move rfl rfl rfl ?_ | refine k_assign rfl rfl rfl ?_ | refine k_pick rfl rfl rfl rfl ?_ | refine k_field rfl rfl rfl rfl ?_ | refine k_load rfl rfl rfl ‹_› ‹_› ?_ | refine k_load4 rfl rfl rfl rfl ‹_› ‹_› ?_ | refine k_lenI rfl rfl rfl rfl rfl rfl ‹_› ?_ | refine qT rfl ?_ | refine qF rfl ?_ | apply qR | apply qS | apply qK | apply qE | apply qB | refine wp_scope ?_ | refine wp_label ?_)
   refine wops_cons (wop_bin (op := .add) (v := .int .i64 0) rfl rfl rfl rfl rfl ?_)
   refine wops_cons (wop_bin (op := .eql) (v := .bool true) rfl rfl rfl rfl rfl ?_)
   repeat (first | apply qN | refine zq1 rfl rfl ?_ | refine qM rfl rfl ?_ | refine zq4 rfl rfl rfl rfl (inc (by omega)) ?_ | refine zqa rfl rfl rfl ?_ | refine zq5 rfl rfl rfl rfl rfl ‹_› ?_ | refine zq6 rfl rfl ‹_› ?_ | refine zqb rfl rfl rfl ‹_› ?_ | refine zq7 rfl rfl rfl ?_ | refine zq8 rfl rfl rfl ?_ | refine zq9 rfl rfl rfl rfl ?_ | refine k_nil ?_ | refine k_skip rfl rfl ?_ | refine k_move rfl rfl rfl ?_ | refine k_assign rfl rfl rfl ?_ | refine k_pick rfl rfl rfl rfl ?_ | refine k_field rfl rfl rfl rfl ?_ | refine k_load rfl rfl rfl ‹_› ‹_› ?_ | refine k_load4 rfl rfl rfl rfl ‹_› ‹_› ?_ | refine k_lenI rfl rfl rfl rfl rfl rfl ‹_› ?_ | refine qT rfl ?_ | refine qF rfl ?_ | apply qR | apply qS | apply qK | apply qE | apply qB | refine wp_scope ?_ | refine wp_label ?_)
   refine wops_cons (wop_bin (op := .eql) (v := .bool true) rfl rfl rfl rfl (by simp [binI]) ?_)
   repeat (first | apply qN | refine zq1 rfl rfl ?_ | refine qM rfl rfl ?_ | refine zq4 rfl rfl rfl rfl (inc (by omega)) ?_ | refine zqa rfl rfl rfl ?_ | refine zq5 rfl rfl rfl rfl rfl ‹_› ?_ | refine zq6 rfl rfl ‹_› ?_ | refine zqb rfl rfl rfl ‹_› ?_ | refine zq7 rfl rfl rfl ?_ | refine zq8 rfl rfl rfl ?_ | refine zq9 rfl rfl rfl rfl ?_ | refine k_nil ?_ | refine k_skip rfl rfl ?_ | refine k_move rfl rfl rfl ?_ | refine k_assign rfl rfl rfl ?_ | refine k_pick rfl rfl rfl rfl ?_ | refine k_field rfl rfl rfl rfl ?_ | refine k_load rfl rfl rfl ‹_› ‹_› ?_ | refine k_load4 rfl rfl rfl rfl ‹_› ‹_› ?_ | refine k_lenI rfl rfl rfl rfl rfl rfl ‹_› ?_ | refine qT rfl ?_ | refine qF rfl ?_ | apply qR | apply qS | apply qK | apply qE | apply qB | refine wp_scope ?_ | refine wp_label ?_)
   refine wp_ret ?_
   exact ⟨_, _, rfl, hk _⟩
 have hru : ruE r = 0 := (first4 (staE_ok hst).1).1
 have hee : errE r tk gp k = tukE r k := by
   unfold errE
   rw [fnz_0 hst]
   by_cases h : tukE r k = 0
   · rw [h]; rfl
   · exact fnz_ne h
 rw [hst]
 refine wops_cons (wop_bin (op := .eql) (v := .bool true) rfl rfl rfl rfl rfl ?_)
 have c4 := hE16.b4
 have c6 := hE16.b6
 repeat (first | apply qN | refine zq1 rfl rfl ?_ | refine qM rfl rfl ?_ | refine zq4 rfl rfl rfl rfl (inc (by omega)) ?_ | refine zqa rfl rfl rfl ?_ | refine zq5 rfl rfl rfl rfl rfl ‹_› ?_ | refine zq6 rfl rfl ‹_› ?_ | refine zqb rfl rfl rfl ‹_› ?_ | refine zq7 rfl rfl rfl ?_ | refine zq8 rfl rfl rfl ?_ | refine zq9 rfl rfl rfl rfl ?_ | refine k_nil ?_ | refine k_skip rfl rfl ?_ | refine k_move rfl rfl rfl ?_ | refine k_assign rfl rfl rfl ?_ | refine k_pick rfl rfl rfl rfl ?_ | refine k_field rfl rfl rfl rfl ?_ | refine k_load rfl rfl rfl ‹_› ‹_› ?_ | refine k_load4 rfl rfl rfl rfl ‹_› ‹_› ?_ | refine k_lenI rfl rfl rfl rfl rfl rfl ‹_› ?_ | refine qT rfl ?_ | refine qF rfl ?_ | apply qR | apply qS | apply qK | apply qE | apply qB | refine wp_scope ?_ | refine wp_label ?_)
 refine wops_cons (wop_callF rfl rfl rfl (fn := Tryz.f21) (by rfl) ?_)
 refine c21 hq H16 r k _ _ rfl rfl hru (by omega) _ fun H17 k17 n17 => ⟨k17.nx, ?_⟩
 have hE17 := hE16.keep k17
 have gl17 : H17.gl = H.gl := k17.gl.trans gl16
 have n17' : H17.next ≤ 40010 := by omega
 have hpH17 := hp16.keep k17
 have hqH17 := hq16.keep k17
 have bH17 := b16.keep hSlt k17
 have hSlt17 : S2 < H17.next := by have := k17.nx; omega
 clear hE16 gl16 hp16 hq16 b16 bH16 hpH16 hqH16 k17 n17 n16' hSlt c4 c6 k16
 rw [← hee]
 repeat (first | apply qN | refine zq1 rfl rfl ?_ | refine qM rfl rfl ?_ | refine zq4 rfl rfl rfl rfl (inc (by omega)) ?_ | refine zqa rfl rfl rfl ?_ | refine zq5 rfl rfl rfl rfl rfl ‹_› ?_ | refine zq6 rfl rfl ‹_› ?_ | refine zqb rfl rfl rfl ‹_› ?_ | refine zq7 rfl rfl rfl ?_ | refine zq8 rfl rfl rfl ?_ | refine zq9 rfl rfl rfl rfl ?_ | refine k_nil ?_ | refine k_skip rfl rfl ?_ | refine k_move rfl rfl rfl ?_ | refine k_assign rfl rfl rfl ?_ | refine k_pick rfl rfl rfl rfl ?_ | refine k_field rfl rfl rfl rfl ?_ | refine k_load rfl rfl rfl ‹_› ‹_› ?_ | refine k_load4 rfl rfl rfl rfl ‹_› ‹_› ?_ | refine k_lenI rfl rfl rfl rfl rfl rfl ‹_› ?_ | refine qT rfl ?_ | refine qF rfl ?_ | apply qR | apply qS | apply qK | apply qE | apply qB | refine wp_scope ?_ | refine wp_label ?_)
 refine WOps.cut (fun T => ∃ Y : List AV, T = (lget Y 0 :: lget Y 1 :: lget Y 2 :: .ptr R0 0 :: .ptr R1 0 :: .ptr R2 0 :: lget Y 3 :: .ptr A 0 :: .ptr B 0 :: .ptr C 0 :: lget Y 4 :: lget Y 5 :: iv (errE r tk gp k) :: iv (lgX r tk gp k) :: iv (errE r tk gp k) :: .ptr S2 0 :: iv (nxtE r tk gp k) :: lget Y 6 :: lget Y 7 :: lget Y 8 :: lget Y 9 :: lget Y 10 :: lget Y 11 :: lget Y 12 :: lget Y 13 :: lget Y 14 :: lget Y 15 :: lget Y 16 :: lget Y 17 :: lget Y 18 :: lget Y 19 :: lget Y 20 :: lget Y 21 :: lget Y 22 :: lget Y 23 :: lget Y 24 :: lget Y 25 :: lget Y 26 :: lget Y 27 :: lget Y 28 :: lget Y 29 :: lget Y 30 :: lget Y 31 :: lget Y 32 :: lget Y 33 :: lget Y 34 :: lget Y 35 :: lget Y 36 :: lget Y 37 :: lget Y 38 :: lget Y 39 :: lget Y 40 :: lget Y 41 :: lget Y 42 :: lget Y 43 :: lget Y 44 :: lget Y 45 :: lget Y 46 :: lget Y 47 :: lget Y 48 :: lget Y 49 :: lget Y 50 :: lget Y 51 :: lget Y 52 :: lget Y 53 :: lget Y 54 :: lget Y 55 :: lget Y 56 :: lget Y 57 :: lget Y 58 :: lget Y 59 :: lget Y 60 :: lget Y 61 :: lget Y 62 :: lget Y 63 :: lget Y 64 :: lget Y 65 :: lget Y 66 :: lget Y 67 :: lget Y 68 :: lget Y 69 :: lget Y 70 :: lget Y 71 :: lget Y 72 :: lget Y 73 :: lget Y 74 :: lget Y 75 :: lget Y 76 :: lget Y 77 :: lget Y 78 :: lget Y 79 :: lget Y 80 :: lget Y 81 :: lget Y 82 :: lget Y 83 :: lget Y 84 :: lget Y 85 :: lget Y 86 :: lget Y 87 :: iv (errE r tk gp k) :: lget Y 88 :: lget Y 89 :: lget Y 90 :: lget Y 91 :: lget Y 92 :: lget Y 93 :: lget Y 94 :: lget Y 95 :: lget Y 96 :: lget Y 97 :: lget Y 98 :: lget Y 99 :: lget Y 100 :: lget Y 101 :: lget Y 102 :: lget Y 103 :: lget Y 104 :: lget Y 105 :: lget Y 106 :: lget Y 107 :: lget Y 108 :: lget Y 109 :: lget Y 110 :: lget Y 111 :: lget Y 112 :: lget Y 113 :: lget Y 114 :: lget Y 115 :: lget Y 116 :: lget Y 117 :: lget Y 118 :: lget Y 119 :: lget Y 120 :: lget Y 121 :: lget Y 122 :: lget Y 123 :: lget Y 124 :: lget Y 125 :: lget Y 126 :: lget Y 127 :: lget Y 128 :: lget Y 129 :: lget Y 130 :: lget Y 131 :: lget Y 132 :: lget Y 133 :: lget Y 134 :: lget Y 135 :: lget Y 136 :: lget Y 137 :: lget Y 138 :: lget Y 139 :: lget Y 140 :: lget Y 141 :: [])) ⟨[_,_,_,_,_,_,_,_,_,_,_,_,_,_,_,_,_,_,_,_,_,_,_,_,_,_,_,_,_,_,_,_,_,_,_,_,_,_,_,_,_,_,_,_,_,_,_,_,_,_,_,_,_,_,_,_,_,_,_,_,_,_,_,_,_,_,_,_,_,_,_,_,_,_,_,_,_,_,_,_,_,_,_,_,_,_,_,_,_,_,_,_,_,_,_,_,_,_,_,_,_,_,_,_,_,_,_,_,_,_,_,_,_,_,_,_,_,_,_,_,_,_,_,_,_,_,_,_,_,_,_,_,_,_,_,_,_,_,_,_,_,_], rfl⟩ ?_
 rintro T ⟨Y, rfl⟩
 by_cases hE0 : errE r tk gp k = 0
 rotate_left
 · have hn16 := nxtE_err hE0
   rw [hn16] at hs1 ⊢
   obtain ⟨e1, e2⟩ := hs1 hE0
   have hlx : lgX r tk gp k = 0 := by unfold lgX; rw [if_neg hE0]
   have hpn : Sl H17 p2 (ivs []) := by rw [← e1]; exact hpH17.sl
   have hqn : Sl H17 q2 (ivs []) := by rw [← e2]; exact hqH17.sl
   have sp0 : At H17 (.ptr S2 0) p2 := bH17.at rfl
   have sp1 : At H17 (.ptr S2 1) q2 := bH17.at rfl
   rw [hlx]
   generalize errE r tk gp k = w at hE0 ⊢
   refine wops_cons (wop_bin (op := .neq) (v := .bool true) rfl rfl rfl rfl (by simp [binI, hE0]) ?_)
   repeat (first | apply qN | refine zq1 rfl rfl ?_ | refine qM rfl rfl ?_ | refine zq4 rfl rfl rfl rfl (inc (by omega)) ?_ | refine zqa rfl rfl rfl ?_ | refine zq5 rfl rfl rfl rfl rfl ‹_› ?_ | refine zq6 rfl rfl ‹_› ?_ | refine zqb rfl rfl rfl ‹_› ?_ | refine zq7 rfl rfl rfl ?_ | refine zq8 rfl rfl rfl ?_ | refine zq9 rfl rfl rfl rfl ?_ | refine k_nil ?_ | refine k_skip rfl rfl ?_ | refine k_move rfl rfl rfl ?_ | refine k_assign rfl rfl rfl ?_ | refine k_pick rfl rfl rfl rfl ?_ | refine k_field rfl rfl rfl rfl ?_ | refine k_load rfl rfl rfl ‹_› ‹_› ?_ | refine k_load4 rfl rfl rfl rfl ‹_› ‹_› ?_ | refine k_lenI rfl rfl rfl rfl rfl rfl ‹_› ?_ | refine qT rfl ?_ | refine qF rfl ?_ | apply qR | apply qS | apply qK | apply qE | apply qB | refine wp_scope ?_ | refine wp_label ?_)
   refine wops_cons (wop_callF rfl rfl rfl (fn := Tryz.f22) (by rfl) ?_)
   refine c22 hq H17 0 w w 0 _ ⟨Nat.le_refl _, ?_⟩
   rw [show intB 0 w w 0 = true by unfold intB; rw [if_neg hE0]; simp]
   repeat (first | apply qN | refine zq1 rfl rfl ?_ | refine qM rfl rfl ?_ | refine zq4 rfl rfl rfl rfl (inc (by omega)) ?_ | refine zqa rfl rfl rfl ?_ | refine zq5 rfl rfl rfl rfl rfl ‹_› ?_ | refine zq6 rfl rfl ‹_› ?_ | refine zqb rfl rfl rfl ‹_› ?_ | refine zq7 rfl rfl rfl ?_ | refine zq8 rfl rfl rfl ?_ | refine zq9 rfl rfl rfl rfl ?_ | refine k_nil ?_ | refine k_skip rfl rfl ?_ | refine k_move rfl rfl rfl ?_ | refine k_assign rfl rfl rfl ?_ | refine k_pick rfl rfl rfl rfl ?_ | refine k_field rfl rfl rfl rfl ?_ | refine k_load rfl rfl rfl ‹_› ‹_› ?_ | refine k_load4 rfl rfl rfl rfl ‹_› ‹_› ?_ | refine k_lenI rfl rfl rfl rfl rfl rfl ‹_› ?_ | refine qT rfl ?_ | refine qF rfl ?_ | apply qR | apply qS | apply qK | apply qE | apply qB | refine wp_scope ?_ | refine wp_label ?_)
   refine wops_cons (wop_bin (op := .add) (v := .int .i64 0) rfl rfl rfl rfl rfl ?_)
   refine wops_cons (wop_bin (op := .eql) (v := .bool true) rfl rfl rfl rfl rfl ?_)
   repeat (first | apply qN | refine zq1 rfl rfl ?_ | refine qM rfl rfl ?_ | refine zq4 rfl rfl rfl rfl (inc (by omega)) ?_ | refine zqa rfl rfl rfl ?_ | refine zq5 rfl rfl rfl rfl rfl ‹_› ?_ | refine zq6 rfl rfl ‹_› ?_ | refine zqb rfl rfl rfl ‹_› ?_ | refine zq7 rfl rfl rfl ?_ | refine zq8 rfl rfl rfl ?_ | refine zq9 rfl rfl rfl rfl ?_ | refine k_nil ?_ | refine k_skip rfl rfl ?_ | refine k_move rfl rfl rfl ?_ | refine k_assign rfl rfl rfl ?_ | refine k_pick rfl rfl rfl rfl ?_ | refine k_field rfl rfl rfl rfl ?_ | refine k_load rfl rfl rfl ‹_› ‹_› ?_ | refine k_load4 rfl rfl rfl rfl ‹_› ‹_› ?_ | refine k_lenI rfl rfl rfl rfl rfl rfl ‹_› ?_ | refine qT rfl ?_ | refine qF rfl ?_ | apply qR | apply qS | apply qK | apply qE | apply qB | refine wp_scope ?_ | refine wp_label ?_)
   refine wops_cons (wop_bin (op := .eql) (v := .bool true) rfl rfl rfl rfl (by simp [binI]) ?_)
   repeat (first | apply qN | refine zq1 rfl rfl ?_ | refine qM rfl rfl ?_ | refine zq4 rfl rfl rfl rfl (inc (by omega)) ?_ | refine zqa rfl rfl rfl ?_ | refine zq5 rfl rfl rfl rfl rfl ‹_› ?_ | refine zq6 rfl rfl ‹_› ?_ | refine zqb rfl rfl rfl ‹_› ?_ | refine zq7 rfl rfl rfl ?_ | refine zq8 rfl rfl rfl ?_ | refine zq9 rfl rfl rfl rfl ?_ | refine k_nil ?_ | refine k_skip rfl rfl ?_ | refine k_move rfl rfl rfl ?_ | refine k_assign rfl rfl rfl ?_ | refine k_pick rfl rfl rfl rfl ?_ | refine k_field rfl rfl rfl rfl ?_ | refine k_load rfl rfl rfl ‹_› ‹_› ?_ | refine k_load4 rfl rfl rfl rfl ‹_› ‹_› ?_ | refine k_lenI rfl rfl rfl rfl rfl rfl ‹_› ?_ | refine qT rfl ?_ | refine qF rfl ?_ | apply qR | apply qS | apply qK | apply qE | apply qB | refine wp_scope ?_ | refine wp_label ?_)
   refine wp_ret ?_
   exact ⟨_, _, rfl, hk _⟩
 obtain ⟨e1, e2⟩ := errE_0 hE0
 obtain ⟨j, z, g, hT, hlgE⟩ := tkd_of e1 e2
 have hlx : lgX r tk gp k = legE r tk gp k z g := by unfold lgX; rw [if_pos hE0, hlgE]
 have hnx : nxtE r tk gp k = if legE r tk gp k z g = 0 then 0 else 18 := by unfold nxtE; rw [if_pos hE0, hlgE]
 rw [hE0, hlx]
 refine wops_cons (wop_bin (op := .neq) (v := .bool false) rfl rfl rfl rfl rfl ?_)
 have c4 := hE17.b4
 have c5 := hE17.b5
 have c6 := hE17.b6
 repeat (first | apply qN | refine zq1 rfl rfl ?_ | refine qM rfl rfl ?_ | refine zq4 rfl rfl rfl rfl (inc (by omega)) ?_ | refine zqa rfl rfl rfl ?_ | refine zq5 rfl rfl rfl rfl rfl ‹_› ?_ | refine zq6 rfl rfl ‹_› ?_ | refine zqb rfl rfl rfl ‹_› ?_ | refine zq7 rfl rfl rfl ?_ | refine zq8 rfl rfl rfl ?_ | refine zq9 rfl rfl rfl rfl ?_ | refine k_nil ?_ | refine k_skip rfl rfl ?_ | refine k_move rfl rfl rfl ?_ | refine k_assign rfl rfl rfl ?_ | refine k_pick rfl rfl rfl rfl ?_ | refine k_field rfl rfl rfl rfl ?_ | refine k_load rfl rfl rfl ‹_› ‹_› ?_ | refine k_load4 rfl rfl rfl rfl ‹_› ‹_› ?_ | refine k_lenI rfl rfl rfl rfl rfl rfl ‹_› ?_ | refine qT rfl ?_ | refine qF rfl ?_ | apply qR | apply qS | apply qK | apply qE | apply qB | refine wp_scope ?_ | refine wp_label ?_)
 refine wops_cons (wop_callF rfl rfl rfl (fn := Tryz.f23) (by rfl) ?_)
 refine c23 hq H17 r k _ _ _ _ tk gp j z g rfl rfl hT hE17.x hE17.y (by omega) _ fun H18 k18 n18 => ⟨k18.nx, ?_⟩
 have hE18 := hE17.keep k18
 have n18' : H18.next ≤ 40100 := by omega
 have hp18 := hpH17.keep k18
 have hq18 := hqH17.keep k18
 have b18 := bH17.keep hSlt17 k18
 have hSlt18 : S2 < H18.next := by have := k18.nx; omega
 clear hE17 gl17 hpH17 hqH17 bH17 k18 n18 n17' hSlt17 c4 c5 c6
 generalize hlv : legE r tk gp k z g = v at hnx ⊢
 repeat (first | apply qN | refine zq1 rfl rfl ?_ | refine qM rfl rfl ?_ | refine zq4 rfl rfl rfl rfl (inc (by omega)) ?_ | refine zqa rfl rfl rfl ?_ | refine zq5 rfl rfl rfl rfl rfl ‹_› ?_ | refine zq6 rfl rfl ‹_› ?_ | refine zqb rfl rfl rfl ‹_› ?_ | refine zq7 rfl rfl rfl ?_ | refine zq8 rfl rfl rfl ?_ | refine zq9 rfl rfl rfl rfl ?_ | refine k_nil ?_ | refine k_skip rfl rfl ?_ | refine k_move rfl rfl rfl ?_ | refine k_assign rfl rfl rfl ?_ | refine k_pick rfl rfl rfl rfl ?_ | refine k_field rfl rfl rfl rfl ?_ | refine k_load rfl rfl rfl ‹_› ‹_› ?_ | refine k_load4 rfl rfl rfl rfl ‹_› ‹_› ?_ | refine k_lenI rfl rfl rfl rfl rfl rfl ‹_› ?_ | refine qT rfl ?_ | refine qF rfl ?_ | apply qR | apply qS | apply qK | apply qE | apply qB | refine wp_scope ?_ | refine wp_label ?_)
 refine wops_cons (wop_callF rfl rfl rfl (fn := Tryz.f22) (by rfl) ?_)
 refine c22 hq H18 v 0 0 v _ ⟨Nat.le_refl _, ?_⟩
 rw [show intB v 0 0 v = true by unfold intB; rw [if_pos rfl]; simp]
 repeat (first | apply qN | refine zq1 rfl rfl ?_ | refine qM rfl rfl ?_ | refine zq4 rfl rfl rfl rfl (inc (by omega)) ?_ | refine zqa rfl rfl rfl ?_ | refine zq5 rfl rfl rfl rfl rfl ‹_› ?_ | refine zq6 rfl rfl ‹_› ?_ | refine zqb rfl rfl rfl ‹_› ?_ | refine zq7 rfl rfl rfl ?_ | refine zq8 rfl rfl rfl ?_ | refine zq9 rfl rfl rfl rfl ?_ | refine k_nil ?_ | refine k_skip rfl rfl ?_ | refine k_move rfl rfl rfl ?_ | refine k_assign rfl rfl rfl ?_ | refine k_pick rfl rfl rfl rfl ?_ | refine k_field rfl rfl rfl rfl ?_ | refine k_load rfl rfl rfl ‹_› ‹_› ?_ | refine k_load4 rfl rfl rfl rfl ‹_› ‹_› ?_ | refine k_lenI rfl rfl rfl rfl rfl rfl ‹_› ?_ | refine qT rfl ?_ | refine qF rfl ?_ | apply qR | apply qS | apply qK | apply qE | apply qB | refine wp_scope ?_ | refine wp_label ?_)
 refine WOps.cut (fun T => ∃ Y : List AV, T = (lget Y 0 :: lget Y 1 :: lget Y 2 :: .ptr R0 0 :: .ptr R1 0 :: .ptr R2 0 :: lget Y 3 :: .ptr A 0 :: .ptr B 0 :: .ptr C 0 :: lget Y 4 :: lget Y 5 :: lget Y 6 :: lget Y 7 :: lget Y 8 :: .ptr S2 0 :: iv (nxtE r tk gp k) :: iv v :: lget Y 9 :: lget Y 10 :: lget Y 11 :: lget Y 12 :: lget Y 13 :: lget Y 14 :: lget Y 15 :: lget Y 16 :: lget Y 17 :: lget Y 18 :: lget Y 19 :: lget Y 20 :: lget Y 21 :: lget Y 22 :: lget Y 23 :: lget Y 24 :: lget Y 25 :: lget Y 26 :: lget Y 27 :: lget Y 28 :: lget Y 29 :: lget Y 30 :: lget Y 31 :: lget Y 32 :: lget Y 33 :: lget Y 34 :: lget Y 35 :: lget Y 36 :: lget Y 37 :: lget Y 38 :: lget Y 39 :: lget Y 40 :: lget Y 41 :: lget Y 42 :: lget Y 43 :: lget Y 44 :: lget Y 45 :: lget Y 46 :: lget Y 47 :: lget Y 48 :: lget Y 49 :: lget Y 50 :: lget Y 51 :: lget Y 52 :: lget Y 53 :: lget Y 54 :: lget Y 55 :: lget Y 56 :: lget Y 57 :: lget Y 58 :: lget Y 59 :: lget Y 60 :: lget Y 61 :: lget Y 62 :: lget Y 63 :: lget Y 64 :: lget Y 65 :: lget Y 66 :: lget Y 67 :: lget Y 68 :: lget Y 69 :: lget Y 70 :: lget Y 71 :: lget Y 72 :: lget Y 73 :: lget Y 74 :: lget Y 75 :: lget Y 76 :: lget Y 77 :: lget Y 78 :: lget Y 79 :: lget Y 80 :: lget Y 81 :: lget Y 82 :: lget Y 83 :: lget Y 84 :: lget Y 85 :: lget Y 86 :: lget Y 87 :: lget Y 88 :: lget Y 89 :: lget Y 90 :: lget Y 91 :: lget Y 92 :: lget Y 93 :: lget Y 94 :: lget Y 95 :: lget Y 96 :: lget Y 97 :: lget Y 98 :: lget Y 99 :: lget Y 100 :: lget Y 101 :: lget Y 102 :: lget Y 103 :: lget Y 104 :: lget Y 105 :: lget Y 106 :: lget Y 107 :: lget Y 108 :: lget Y 109 :: lget Y 110 :: lget Y 111 :: lget Y 112 :: lget Y 113 :: lget Y 114 :: lget Y 115 :: lget Y 116 :: lget Y 117 :: lget Y 118 :: lget Y 119 :: iv v :: lget Y 120 :: lget Y 121 :: lget Y 122 :: lget Y 123 :: lget Y 124 :: lget Y 125 :: lget Y 126 :: lget Y 127 :: lget Y 128 :: lget Y 129 :: lget Y 130 :: lget Y 131 :: lget Y 132 :: lget Y 133 :: lget Y 134 :: lget Y 135 :: lget Y 136 :: lget Y 137 :: lget Y 138 :: lget Y 139 :: lget Y 140 :: lget Y 141 :: lget Y 142 :: lget Y 143 :: [])) ⟨[_,_,_,_,_,_,_,_,_,_,_,_,_,_,_,_,_,_,_,_,_,_,_,_,_,_,_,_,_,_,_,_,_,_,_,_,_,_,_,_,_,_,_,_,_,_,_,_,_,_,_,_,_,_,_,_,_,_,_,_,_,_,_,_,_,_,_,_,_,_,_,_,_,_,_,_,_,_,_,_,_,_,_,_,_,_,_,_,_,_,_,_,_,_,_,_,_,_,_,_,_,_,_,_,_,_,_,_,_,_,_,_,_,_,_,_,_,_,_,_,_,_,_,_,_,_,_,_,_,_,_,_,_,_,_,_,_,_,_,_,_,_,_,_], rfl⟩ ?_
 rintro T ⟨Y, rfl⟩
 have sp0 : At H18 (.ptr S2 0) p2 := b18.at rfl
 have sp1 : At H18 (.ptr S2 1) q2 := b18.at rfl
 by_cases hv : v = 0
 rotate_left
 · rw [if_neg hv] at hnx
   obtain ⟨e3, e4⟩ := hs1 (by rw [hnx]; decide)
   have hpn : Sl H18 p2 (ivs []) := by rw [← e3]; exact hp18.sl
   have hqn : Sl H18 q2 (ivs []) := by rw [← e4]; exact hq18.sl
   rw [hnx]
   refine wops_cons (wop_bin (op := .neq) (v := .bool true) rfl rfl rfl rfl (by simp [binI, hv]) ?_)
   repeat (first | apply qN | refine zq1 rfl rfl ?_ | refine qM rfl rfl ?_ | refine zq4 rfl rfl rfl rfl (inc (by omega)) ?_ | refine zqa rfl rfl rfl ?_ | refine zq5 rfl rfl rfl rfl rfl ‹_› ?_ | refine zq6 rfl rfl ‹_› ?_ | refine zqb rfl rfl rfl ‹_› ?_ | refine zq7 rfl rfl rfl ?_ | refine zq8 rfl rfl rfl ?_ | refine zq9 rfl rfl rfl rfl ?_ | refine k_nil ?_ | refine k_skip rfl rfl ?_ | refine k_move rfl rfl rfl ?_ | refine k_assign rfl rfl rfl ?_ | refine k_pick rfl rfl rfl rfl ?_ | refine k_field rfl rfl rfl rfl ?_ | refine k_load rfl rfl rfl ‹_› ‹_› ?_ | refine k_load4 rfl rfl rfl rfl ‹_› ‹_› ?_ | refine k_lenI rfl rfl rfl rfl rfl rfl ‹_› ?_ | refine qT rfl ?_ | refine qF rfl ?_ | apply qR | apply qS | apply qK | apply qE | apply qB | refine wp_scope ?_ | refine wp_label ?_)
   refine wops_cons (wop_bin (op := .add) (v := .int .i64 0) rfl rfl rfl rfl rfl ?_)
   refine wops_cons (wop_bin (op := .eql) (v := .bool true) rfl rfl rfl rfl rfl ?_)
   repeat (first | apply qN | refine zq1 rfl rfl ?_ | refine qM rfl rfl ?_ | refine zq4 rfl rfl rfl rfl (inc (by omega)) ?_ | refine zqa rfl rfl rfl ?_ | refine zq5 rfl rfl rfl rfl rfl ‹_› ?_ | refine zq6 rfl rfl ‹_› ?_ | refine zqb rfl rfl rfl ‹_› ?_ | refine zq7 rfl rfl rfl ?_ | refine zq8 rfl rfl rfl ?_ | refine zq9 rfl rfl rfl rfl ?_ | refine k_nil ?_ | refine k_skip rfl rfl ?_ | refine k_move rfl rfl rfl ?_ | refine k_assign rfl rfl rfl ?_ | refine k_pick rfl rfl rfl rfl ?_ | refine k_field rfl rfl rfl rfl ?_ | refine k_load rfl rfl rfl ‹_› ‹_› ?_ | refine k_load4 rfl rfl rfl rfl ‹_› ‹_› ?_ | refine k_lenI rfl rfl rfl rfl rfl rfl ‹_› ?_ | refine qT rfl ?_ | refine qF rfl ?_ | apply qR | apply qS | apply qK | apply qE | apply qB | refine wp_scope ?_ | refine wp_label ?_)
   refine wops_cons (wop_bin (op := .eql) (v := .bool true) rfl rfl rfl rfl rfl ?_)
   repeat (first | apply qN | refine zq1 rfl rfl ?_ | refine qM rfl rfl ?_ | refine zq4 rfl rfl rfl rfl (inc (by omega)) ?_ | refine zqa rfl rfl rfl ?_ | refine zq5 rfl rfl rfl rfl rfl ‹_› ?_ | refine zq6 rfl rfl ‹_› ?_ | refine zqb rfl rfl rfl ‹_› ?_ | refine zq7 rfl rfl rfl ?_ | refine zq8 rfl rfl rfl ?_ | refine zq9 rfl rfl rfl rfl ?_ | refine k_nil ?_ | refine k_skip rfl rfl ?_ | refine k_move rfl rfl rfl ?_ | refine k_assign rfl rfl rfl ?_ | refine k_pick rfl rfl rfl rfl ?_ | refine k_field rfl rfl rfl rfl ?_ | refine k_load rfl rfl rfl ‹_› ‹_› ?_ | refine k_load4 rfl rfl rfl rfl ‹_› ‹_› ?_ | refine k_lenI rfl rfl rfl rfl rfl rfl ‹_› ?_ | refine qT rfl ?_ | refine qF rfl ?_ | apply qR | apply qS | apply qK | apply qE | apply qB | refine wp_scope ?_ | refine wp_label ?_)
   refine wp_ret ?_
   exact ⟨_, _, rfl, hk _⟩
 rw [if_pos hv] at hnx
 obtain ⟨j', z', g', hT', e3, e4⟩ := hs2 hnx
 have hjj : j' = j := by have := hT.a; have := hT'.a; omega
 subst hjj
 have hzz : z' = z := by have h1 := hT.z; have h2 := hT'.z; rw [h1] at h2; exact (Option.some.inj h2).symm
 have hgg : g' = g := by have h1 := hT.g; have h2 := hT'.g; rw [h1] at h2; exact (Option.some.inj h2).symm
 subst hzz hgg
 rw [hnx]
 refine wops_cons (wop_bin (op := .neq) (v := .bool false) rfl rfl rfl rfl (by rw [hv]; rfl) ?_)
 have spq : beqs [p2, q2] [p2, q2] = true := by simp [beqs, hp18.sl.beq, hq18.sl.beq]
 repeat (first | apply qN | refine zq1 rfl rfl ?_ | refine qM rfl rfl ?_ | refine zq4 rfl rfl rfl rfl (inc (by omega)) ?_ | refine zqa rfl rfl rfl ?_ | refine zq5 rfl rfl rfl rfl rfl ‹_› ?_ | refine zq6 rfl rfl ‹_› ?_ | refine zqb rfl rfl rfl ‹_› ?_ | refine zq7 rfl rfl rfl ?_ | refine zq8 rfl rfl rfl ?_ | refine zq9 rfl rfl rfl rfl ?_ | refine k_nil ?_ | refine k_skip rfl rfl ?_ | refine k_move rfl rfl rfl ?_ | refine k_assign rfl rfl rfl ?_ | refine k_pick rfl rfl rfl rfl ?_ | refine k_field rfl rfl rfl rfl ?_ | refine k_load rfl rfl rfl ‹_› ‹_› ?_ | refine k_load4 rfl rfl rfl rfl ‹_› ‹_› ?_ | refine k_lenI rfl rfl rfl rfl rfl rfl ‹_› ?_ | refine qT rfl ?_ | refine qF rfl ?_ | apply qR | apply qS | apply qK | apply qE | apply qB | refine wp_scope ?_ | refine wp_label ?_)
 refine wp_drawK rfl ?_
 refine k_move rfl rfl rfl ?_
 refine k_bin (op := .eql) (v := .bool true) rfl rfl rfl rfl rfl rfl ?_
 refine k_move rfl rfl rfl ?_
 refine k_load4 rfl rfl rfl rfl b18 (lkP (n := 0) b18 hSlt18 spq) ?_
 refine k_load4 rfl rfl rfl rfl hE18.b4 (lkP (n := 0) hE18.b4 hE18.l4 (ru_beq r)) ?_
 refine k_load4 rfl rfl rfl rfl hE18.b5 (lkP (n := 0) hE18.b5 hE18.l5 hE18.sb) ?_
 refine k_load4 rfl rfl rfl rfl hE18.b6 (lkP (n := 0) hE18.b6 hE18.l6 (tk_beq k)) ?_
 refine k_call rfl rfl rfl (fun b h => by cases h) (wop_callF rfl rfl rfl (fn := Tryz.f9) (by rfl) ?_)
 refine c9 hq H18 _ p2 q2 rfl hp18.sl.one hq18.sl.one (by omega) _ fun H19 k19 n19 => ⟨k19.nx, k19, ?_⟩
 refine k_call rfl rfl rfl (fun b h => by cases h) (wop_callF rfl rfl rfl (fn := Tryz.f24) (by rfl) ?_)
 refine c24 hq H19 r k _ _ x y tk gp j' z' g' rfl rfl hT (hE18.x.keep k19) (hE18.y.keep k19) (by omega) _ fun H20 b c k20 n20 hO1 hO2 => ⟨k20.nx, k19.trans k20, ?_⟩
 have h1 := hO1.ky
 have h2 := hO2.ky
 rw [List.length_set] at h1 h2
 have k1820 := k19.trans k20
 refine k_call rfl rfl rfl (fun b h => by cases h) (wop_callF rfl rfl rfl (fn := Tryz.f15) (by rfl) ?_)
 refine c15 hq H20 p2 q2 _ _ tkN gpN _ _ (hp18.keep k1820) (hq18.keep k1820) h1 h2 (by rw [e3, List.length_set]; exact hlt) (by rw [e4, List.length_set]; exact hlg) (by rw [List.length_set]; exact hlt) (by rw [List.length_set]; exact hlg) (by omega) _ fun H21 k21 n21 => ⟨k21.nx, k1820.trans k21, ?_⟩
 rw [e3, e4, decide_eq_true rfl, decide_eq_true rfl]
 repeat (first | apply qN | refine zq1 rfl rfl ?_ | refine qM rfl rfl ?_ | refine zq4 rfl rfl rfl rfl (inc (by omega)) ?_ | refine zqa rfl rfl rfl ?_ | refine zq5 rfl rfl rfl rfl rfl ‹_› ?_ | refine zq6 rfl rfl ‹_› ?_ | refine zqb rfl rfl rfl ‹_› ?_ | refine zq7 rfl rfl rfl ?_ | refine zq8 rfl rfl rfl ?_ | refine zq9 rfl rfl rfl rfl ?_ | refine k_nil ?_ | refine k_skip rfl rfl ?_ | refine k_move rfl rfl rfl ?_ | refine k_assign rfl rfl rfl ?_ | refine k_pick rfl rfl rfl rfl ?_ | refine k_field rfl rfl rfl rfl ?_ | refine k_load rfl rfl rfl ‹_› ‹_› ?_ | refine k_load4 rfl rfl rfl rfl ‹_› ‹_› ?_ | refine k_lenI rfl rfl rfl rfl rfl rfl ‹_› ?_ | refine qT rfl ?_ | refine qF rfl ?_ | apply qR | apply qS | apply qK | apply qE | apply qB | refine wp_scope ?_ | refine wp_label ?_)
 refine wp_ret ?_
 exact ⟨_, _, rfl, hk _⟩
end Go.Ev
