/- Part of an evaluator of calls that is proved sound, and of what it gives about this program. No condition of its own. -/
import Derived.Test.YtanaplokhjgfmaaGreatDoorEvFa
set_option linter.unusedVariables false
set_option linter.unusedSimpArgs false
set_option linter.unusedSectionVars false
set_option maxRecDepth 100000
set_option maxHeartbeats 4000000
namespace Go.Ev
open Go.Proofs
variable {O : CallF} (hq : Quiet O)
include hq
theorem c24x (H : AH) (r : Ru) (k : Tk) (rv kv : AV) (x y : AV) (tk gp : List Int) (j : Nat) (z g : Int) (hrv : rv.cells = r.cs) (hkv : kv.cells = k.cs) (hT : Tkd r tk gp k j z g) (hx : Ky H x tk) (hy : Ky H y gp) (hr : H.next + 200 < 2 ^ 59) (K : AV → AH → Prop)
   (hk : ∀ H' b c, Keeps H H' → H'.next ≤ H.next + 60 → Own H' b (tk.set j (z + 1)) → Own H' c (gp.set j (gapA r k g)) → K (.agg [.slu b 0 tk.length 1, .slu c 0 gp.length 1]) H') : Ca (ENV O) 24 [rv, .agg [x, y], kv] H K := by
 refine ca_intro (hq _ _ _ rfl) (fn := Tryz.f24) (by rfl) rfl ?_
 have r0 : H.next < 2 ^ 59 := by omega
 have hl := hT.lens
 have hgne : gp ≠ [] := fun e => by rw [e] at hl; have := hT.ne; cases tk with | nil => exact this rfl | cons => simp at hl
 have hzb := hT.zb
 have hR := hT.st.ru
 have hjl : j < tk.length := (List.getElem?_eq_some_iff.1 hT.z).1
 repeat (first | apply qR | apply qS)
 refine wops_cons (o_boxS (cs := r.cs) rfl rfl hrv r0 fun H1 n1 k1 b1 => ?_)
 have r1 : H1.next < 2 ^ 59 := by omega
 refine wops_cons (o_boxS (cs := [x, y]) rfl rfl rfl r1 fun H2 n2 k2 b2 => ?_)
 have r2 : H2.next < 2 ^ 59 := by omega
 refine wops_cons (o_boxS (cs := k.cs) rfl rfl hkv r2 fun H3 n3 k3 b3 => ?_)
 have r3 : H3.next < 2 ^ 59 := by omega
 refine wops_cons (o_allocA (zs := [.v (.slice none 0 0), .v (.slice none 0 0)]) rfl rfl (z := .agg #[.slice none 0 0, .slice none 0 0]) (by kernel_rfl) rfl r3 ?_)
 refine WOps.mem (fun H4 => Keeps H3 H4 ∧ H4.next = H3.next + 1 ∧ H4.get H3.next = some (.cells [.v (.slice none 0 0), .v (.slice none 0 0)] 30 0)) ⟨(Keeps.refl H3).add _ r3, rfl, get_add_eq r3⟩ ?_
 rintro H4 ⟨k4, n4, g4⟩
 have x1 := k1.nx
 have x2 := k2.nx
 have x3 := k3.nx
 have k03 := (k1.trans k2).trans k3
 have k04 := k03.trans k4
 have b1 := b1.keep (by omega) ((k2.trans k3).trans k4)
 have b2 := b2.keep (by omega) (k3.trans k4)
 have b3 := b3.keep (by omega) k4
 have hx4 := hx.keep k04
 have hy4 := hy.keep k04
 have r4 : H4.next < 2 ^ 59 := by omega
 have s0 : At H4 (.ptr H1.next 0) x := b2.at rfl
 have s1 : At H4 (.ptr H1.next 1) y := b2.at rfl
 have sb : beqs [x, y] [x, y] = true := by simp [beqs, hx4.sl.beq, hy4.sl.beq]
 have M := fun n => lkP (n := n) b2 (by omega) sb
 show WOps _ _ _ _ _ _
 repeat (first | apply qN | apply qS)
 refine wp_drawK rfl ?_
 refine k_field rfl rfl rfl rfl ?_
 refine k_load rfl rfl rfl s0 (M _) ?_
 refine k_field rfl rfl rfl rfl ?_
 refine k_load rfl rfl rfl s1 (M _) ?_
 refine k_build0 rfl rfl rfl r4 ?_
 refine WK.mem (fun H5 => Keeps H4 H5 ∧ H5.next = H4.next + 1 ∧ H5.get H4.next = some (.cells [] 3 0)) ⟨(Keeps.refl H4).add _ r4, rfl, get_add_eq r4⟩ ?_
 rintro H5 ⟨k5, n5, g5⟩
 refine k_loud rfl rfl (o_appendX (H0 := H4) (l := tk) rfl rfl rfl rfl rfl (by omega) (by omega) rfl (by omega) g5 rfl (hx4.keep k5).sl hT.ne (Nat.le_refl _) k5 fun c1 H6 hA1 hn1 k6 n6 m6 => ⟨k6, ?_⟩)
 have x6 := k6.nx
 have r6 : H6.next < 2 ^ 59 := by omega
 refine k_build0 rfl rfl rfl r6 ?_
 refine WK.mem (fun H7 => Keeps H6 H7 ∧ H7.next = H6.next + 1 ∧ H7.get H6.next = some (.cells [] 3 0)) ⟨(Keeps.refl H6).add _ r6, rfl, get_add_eq r6⟩ ?_
 rintro H7 ⟨k7, n7, g7⟩
 refine k_loud rfl rfl (o_appendX (H0 := H6) (l := gp) rfl rfl rfl rfl rfl (by omega) (by omega) rfl (by omega) g7 rfl (hy4.keep (k6.trans k7)).sl hgne (Nat.le_refl _) k7 fun c2 H8 hA2 hn2 k8 n8 m8 => ⟨k6.trans k8, ?_⟩)
 have x8 := k8.nx
 have r8 : H8.next < 2 ^ 59 := by omega
 obtain ⟨a1, rfl, hO1⟩ := hA1.own1 hT.ne
 obtain ⟨a2, rfl, hO2⟩ := hA2.own1 (fun e => by rw [e] at hl; have := hT.ne; cases tk with | nil => exact this rfl | cons => simp at hl)
 have ha1 := hn1 a1 rfl
 have ha2 := hn2 a2 rfl
 have ha12 : a1 < a2 := by have := hO1.1; omega
 have hO1 := hO1.keep k8
 have k48 := k6.trans k8
 refine k_buildS rfl rfl rfl rfl rfl rfl rfl ?_
 refine k_allocA (zs := [.v (.slice none 0 0), .v (.slice none 0 0)]) rfl rfl rfl (z := .agg #[.slice none 0 0, .slice none 0 0]) (by kernel_rfl) rfl r8 ?_
 refine k_loud rfl rfl (o_storeA (n := 2) (vs := [.slu a1 0 tk.length 1, .slu a2 0 gp.length 1]) rfl rfl (by kernel_rfl) rfl rfl rfl rfl (get_add_eq r8) (Nat.le_refl _) ⟨(k48.add _ r8).set _ (by omega) r8, ?_⟩)
 refine WK.mem (fun H9 => Keeps H8 H9 ∧ H9.next = H8.next + 1 ∧ Bk H9 H8.next 30 [.slu a1 0 tk.length 1, .slu a2 0 gp.length 1]) ⟨((Keeps.refl H8).add _ r8).set _ (Nat.le_refl _) r8, rfl, ⟨r8, get_set_eq r8⟩⟩ ?_
 rintro H9 ⟨k9, n9, b9⟩
 have x9 := k9.nx
 have k49 := k48.trans k9
 have k09 := k04.trans k49
 have hO19 := hO1.keep k9
 have hO29 := hO2.keep k9
 have b19 := b1.keep (by omega) k49
 have b29 := b2.keep (by omega) k49
 have b39 := b3.keep (by omega) k49
 have g49 := (k49.get _ (by omega)).trans g4
 have a18 := hO1.1
 have a28 := hO2.1
 have a19 := hO19.2.1
 have a29 := hO29.2.1
 have q0 : At H9 (.ptr H2.next 0) (iv (j : Nat)) := by rw [← hT.a]; exact b39.at rfl
 have t80 : At H9 (.ptr H8.next 0) (.slu a1 0 tk.length 1) := b9.at rfl
 have hs1 := hO19.ky.sl
 clear b1 b2 b3
 show WK _ _ _ _ _ _ _
 repeat (first | refine zqa rfl rfl rfl ?_ | refine zq6 rfl rfl ‹_› ?_ | refine k_nil ?_ | apply qR | apply qS)
 refine wops_cons (o_indexI rfl rfl hs1 rfl hT.z fun pp hpp => ?_)
 refine wops_cons (o_load rfl rfl hpp ?_)
 refine wops_cons (wop_bin (op := .add) (v := .int .i64 (z + 1)) rfl rfl rfl rfl (addI (by omega)) ?_)
 refine wops_cons (o_indexU rfl rfl rfl rfl hjl ?_)
 refine wops_cons (o_store rfl rfl rfl hO19.2.2 (by rw [ivs_length]; exact hjl) rfl ?_)
 refine WOps.mem (fun H10 => Keeps H H10 ∧ H10.next = H9.next ∧ Bk H10 H8.next 30 [.slu a1 0 tk.length 1, .slu a2 0 gp.length 1] ∧ Own H10 a1 (tk.set j (z + 1)) ∧ Own H10 a2 gp ∧ H10.get H3.next = some (.cells [.v (.slice none 0 0), .v (.slice none 0 0)] 30 0) ∧ Bk H10 H.next 29 r.cs ∧ Bk H10 H1.next 30 [x, y] ∧ Bk H10 H2.next 32 k.cs) ⟨k09.set _ (by omega) a19, rfl, ⟨r8, ?_⟩, ⟨by show a1 < H9.next; omega, a19, ?_⟩, ⟨by show a2 < H9.next; omega, a29, ?_⟩, ?_, ⟨b19.lt, ?_⟩, ⟨b29.lt, ?_⟩, ⟨b39.lt, ?_⟩⟩ ?_
 · rw [get_set_ne a19 (by omega)]; exact b9.g
 · rw [get_set_eq a19, ← ivs_set]; rfl
 · rw [get_set_ne a19 (by omega)]; exact hO29.2.2
 · rw [get_set_ne a19 (by omega)]; exact g49
 · rw [get_set_ne a19 (by omega)]; exact b19.g
 · rw [get_set_ne a19 (by omega)]; exact b29.g
 · rw [get_set_ne a19 (by omega)]; exact b39.g
 rintro H10 ⟨k10, n10, b10, hP1, hP2, g10, c1', c2', c3'⟩
 have q10 : At H10 (.ptr H2.next 0) (iv (j : Nat)) := by rw [← hT.a]; exact c3'.at rfl
 have t81 : At H10 (.ptr H8.next 1) (.slu a2 0 gp.length 1) := b10.at rfl
 have sm : ∀ b, b = H8.next ∨ b = H.next ∨ b = H1.next ∨ b = H2.next → sameBlk (H10.get b) (H10.get b) = true := fun b hb => by
   rcases hb with rfl | rfl | rfl | rfl
   · rw [b10.g]; simp [sameBlk, beqs, AV.beq]
   · rw [c1'.g]; simp [sameBlk, ru_beq]
   · rw [c2'.g]; simp [sameBlk, sb]
   · rw [c3'.g]; simp [sameBlk, tk_beq]
 show WOps _ _ _ _ _ _
 repeat (first | apply qN | apply qS)
 refine wp_drawY (fun _ b => b = H8.next ∨ b = H.next ∨ b = H1.next ∨ b = H2.next) rfl ?_
 refine y_field rfl rfl rfl rfl ?_
 refine y_load rfl rfl rfl t81 (fun b hb => by cases hb; exact .inl rfl) ?_
 refine y_field rfl rfl rfl rfl ?_
 refine y_load rfl rfl rfl q10 (fun b hb => by cases hb; exact .inr (.inr (.inr rfl))) ?_
 refine y_loadA (r := r.cs) rfl rfl rfl rfl c1'.lt c1'.g rfl (Nat.le_refl _) (.inr (.inl rfl)) ?_
 refine y_loadA (r := [x, y]) rfl rfl rfl rfl c2'.lt c2'.g rfl (Nat.le_refl _) (.inr (.inr (.inl rfl))) ?_
 refine y_loadA (r := k.cs) rfl rfl rfl rfl c3'.lt c3'.g rfl (Nat.le_refl _) (.inr (.inr (.inr rfl))) ?_
 refine y_call rfl rfl rfl (fun b h => by cases h) (wop_callF rfl rfl rfl (fn := Tryz.f81) (by rfl) ?_)
 refine c81 hq H10 r k _ _ _ _ tk gp j z g rfl rfl hT (hy.keep k10) (hx.keep k10).sl.beq (hx.keep k10).sl.one (by omega) _ fun H11 k11 n11 => ⟨k11.nx, fun _ b hb => .inr (by rw [k11.get b (by rcases hb with rfl | rfl | rfl | rfl <;> omega)]; exact sm b hb), ?_⟩
 have x11 := k11.nx
 have hP21 := hP2.keep k11
 refine y_indexU rfl rfl rfl rfl rfl (by omega) ?_
 refine y_loud rfl rfl (o_store rfl rfl rfl hP21.2.2 (by rw [ivs_length]; omega) rfl ⟨fun _ b hb => .inr (by rw [get_set_ne a29 (by rcases hb with rfl | rfl | rfl | rfl <;> omega), k11.get b (by rcases hb with rfl | rfl | rfl | rfl <;> omega)]; exact sm b hb), ?_⟩)
 refine y_nil ?_
 have hP11 := hP1.keep k11
 have b11 := b10.keep (by omega) k11
 have g11 := (k11.get _ (by omega)).trans g10
 refine Wp.mem (fun H12 => Keeps H H12 ∧ H12.next = H11.next ∧ Bk H12 H8.next 30 [.slu a1 0 tk.length 1, .slu a2 0 gp.length 1] ∧ Own H12 a1 (tk.set j (z + 1)) ∧ Own H12 a2 (gp.set j (gapA r k g)) ∧ H12.get H3.next = some (.cells [.v (.slice none 0 0), .v (.slice none 0 0)] 30 0)) ⟨(k10.trans k11).set _ (by omega) a29, rfl, ⟨r8, ?_⟩, ⟨hP11.1, a19, ?_⟩, ⟨hP21.1, a29, ?_⟩, ?_⟩ ?_
 · rw [get_set_ne a29 (by omega)]; exact b11.g
 · rw [get_set_ne a29 (by omega)]; exact hP11.2.2
 · rw [get_set_eq a29, ← ivs_set]; rfl
 · rw [get_set_ne a29 (by omega)]; exact g11
 rintro H12 ⟨k12, n12, b12, hS1, hS2, g12⟩
 repeat (first | refine zqb rfl rfl rfl ‹_› ?_ | apply qR | apply qS)
 refine wops_cons (o_storeA (n := 2) (vs := [.slu a1 0 tk.length 1, .slu a2 0 gp.length 1]) rfl rfl (by kernel_rfl) rfl rfl rfl rfl g12 (Nat.le_refl _) ?_)
 refine WOps.mem (fun H13 => Keeps H H13 ∧ H13.next = H12.next ∧ H13.get H3.next = some (.cells [.slu a1 0 tk.length 1, .slu a2 0 gp.length 1] 30 0) ∧ Own H13 a1 (tk.set j (z + 1)) ∧ Own H13 a2 (gp.set j (gapA r k g))) ⟨k12.set _ (by omega) r3, rfl, get_set_eq r3, ⟨hS1.1, a19, by rw [get_set_ne r3 (by omega)]; exact hS1.2.2⟩, ⟨hS2.1, a29, by rw [get_set_ne r3 (by omega)]; exact hS2.2.2⟩⟩ ?_
 rintro H13 ⟨k13, n13, g13, hQ1, hQ2⟩
 repeat (first | apply qN)
 refine Wp.cut (fun T => ∃ Y : List AV, T = (lget Y 0 :: lget Y 1 :: lget Y 2 :: lget Y 3 :: lget Y 4 :: lget Y 5 :: .ptr H3.next 0 :: lget Y 6 :: lget Y 7 :: lget Y 8 :: lget Y 9 :: lget Y 10 :: lget Y 11 :: lget Y 12 :: lget Y 13 :: lget Y 14 :: lget Y 15 :: lget Y 16 :: lget Y 17 :: lget Y 18 :: lget Y 19 :: lget Y 20 :: lget Y 21 :: lget Y 22 :: lget Y 23 :: lget Y 24 :: lget Y 25 :: lget Y 26 :: lget Y 27 :: lget Y 28 :: lget Y 29 :: lget Y 30 :: lget Y 31 :: lget Y 32 :: lget Y 33 :: [])) ⟨[_,_,_,_,_,_,_,_,_,_,_,_,_,_,_,_,_,_,_,_,_,_,_,_,_,_,_,_,_,_,_,_,_,_], rfl⟩ ?_
 rintro T ⟨Y, rfl⟩
 refine wp_ret ?_
 refine ⟨.agg [.slu a1 0 tk.length 1, .slu a2 0 gp.length 1], H13, ?_, hk H13 a1 a2 k13 (by omega) hQ1 hQ2⟩
 have hres : resA Tryz.prog (lget Y 0 :: lget Y 1 :: lget Y 2 :: lget Y 3 :: lget Y 4 :: lget Y 5 :: .ptr H3.next 0 :: lget Y 6 :: lget Y 7 :: lget Y 8 :: lget Y 9 :: lget Y 10 :: lget Y 11 :: lget Y 12 :: lget Y 13 :: lget Y 14 :: lget Y 15 :: lget Y 16 :: lget Y 17 :: lget Y 18 :: lget Y 19 :: lget Y 20 :: lget Y 21 :: lget Y 22 :: lget Y 23 :: lget Y 24 :: lget Y 25 :: lget Y 26 :: lget Y 27 :: lget Y 28 :: lget Y 29 :: lget Y 30 :: lget Y 31 :: lget Y 32 :: lget Y 33 :: []) H13 Tryz.f24.results.toList = some [.agg [.slu a1 0 tk.length 1, .slu a2 0 gp.length 1]] := by
   show (match loadA Tryz.prog 30 H3.next 0 H13, (some [] : Option (List AV)) with | some x, some m => some (x :: m) | _, _ => none) = _
   rw [load2 g13]
 unfold leaveM resultsA
 simp only [takeMarks]
 rw [show (ENV O).P = Tryz.prog from rfl, hres]
end Go.Ev
namespace Go.Ev
open Go.Proofs
variable {O : CallF} (hq : Quiet O)
include hq
theorem c20x (H : AH) (r : Ru) (k : Tk) (rv kv : AV) (x y : AV) (tk gp : List Int) (hrv : rv.cells = r.cs) (hkv : kv.cells = k.cs) (hx : Ky H x tk) (hy : Ky H y gp) (hlt : tk.length ≤ 1000) (hlg : gp.length ≤ 1000) (hr : H.next + 50000 < 2 ^ 59) (K : AV → AH → Prop)
   (hke : nxtE r tk gp k ≠ 0 → ∀ H', Keeps H H' → H'.next ≤ H.next + 12000 → K (.tup [.agg [.v (.slice none 0 0), .v (.slice none 0 0)], iv (nxtE r tk gp k)]) H')
   (hk : nxtE r tk gp k = 0 → ∀ H' b c j z g, Tkd r tk gp k j z g → Keeps H H' → H'.next ≤ H.next + 12000 → Own H' b (tk.set j (z + 1)) → Own H' c (gp.set j (gapA r k g)) → K (.tup [.agg [.slu b 0 tk.length 1, .slu c 0 gp.length 1], iv 0]) H') : Ca (ENV O) 20 [rv, .agg [x, y], kv] H K := by
 refine ca_intro (hq _ _ _ rfl) (fn := Tryz.f20) (by rfl) rfl ?_
 have r0 : H.next < 2 ^ 59 := by omega
 repeat (first | apply qR | apply qS)
 refine wops_cons (o_boxS (cs := r.cs) rfl rfl hrv r0 fun H1 n1 k1 b1 => ?_)
 have r1 : H1.next < 2 ^ 59 := by omega
 refine wops_cons (o_boxS (cs := [x, y]) rfl rfl rfl r1 fun H2 n2 k2 b2 => ?_)
 have r2 : H2.next < 2 ^ 59 := by omega
 refine wops_cons (o_boxS (cs := k.cs) rfl rfl hkv r2 fun H3 n3 k3 b3 => ?_)
 have r3 : H3.next < 2 ^ 59 := by omega
 refine wops_cons (o_allocA (zs := [.v (.slice none 0 0), .v (.slice none 0 0)]) rfl rfl (z := .agg #[.slice none 0 0, .slice none 0 0]) (by kernel_rfl) rfl r3 ?_)
 refine WOps.mem (fun H4 => Keeps H3 H4 ∧ H4.next = H3.next + 1 ∧ H4.get H3.next = some (.cells [.v (.slice none 0 0), .v (.slice none 0 0)] 26 0)) ⟨(Keeps.refl H3).add _ r3, rfl, get_add_eq r3⟩ ?_
 rintro H4 ⟨k4, n4, g4⟩
 have x1 := k1.nx
 have x2 := k2.nx
 have x3 := k3.nx
 have x4 := k4.nx
 have k04 := ((k1.trans k2).trans k3).trans k4
 have b1 := b1.keep (by omega) ((k2.trans k3).trans k4)
 have b2 := b2.keep (by omega) (k3.trans k4)
 have b3 := b3.keep (by omega) k4
 show WOps _ _ _ _ _ _
 repeat (first | apply qN | refine qM rfl rfl ?_ | refine zqb rfl rfl rfl ‹_› ?_ | apply qR | apply qS)
 refine wops_cons (wop_callF rfl rfl rfl (fn := Tryz.f19) (by rfl) ?_)
 have main : ∀ (lg e : Int), ((e = errE r tk gp k ∧ e ≠ 0 ∧ lg = 0) ∨ (e = 0 ∧ errE r tk gp k = 0 ∧ lg = lgE r tk gp k)) → firstNZ [e, if decide (lg = 0) = true then 0 else 18] = nxtE r tk gp k := fun lg e h => by
   unfold nxtE
   rcases h with ⟨h1, h2, h3⟩ | ⟨h1, h2, h3⟩
   · rw [← h1, if_neg h2, fnz_ne h2]
   · rw [h1, h2, if_pos rfl, fnz_0 rfl, h3]
     by_cases hz : lgE r tk gp k = 0
     · rw [if_pos (decide_eq_true hz), if_pos hz]; rfl
     · rw [if_neg (by rw [decide_eq_false hz]; decide), if_neg hz]; exact fnz_ne (by decide)
 refine Ca.mono (K := fun v H' => ∃ lg e, v = .tup [iv lg, iv e] ∧ Keeps H4 H' ∧ H'.next ≤ H4.next + 10000 ∧ firstNZ [e, if decide (lg = 0) = true then 0 else 18] = nxtE r tk gp k)
   (c19 hq H4 r k _ _ _ _ tk gp rfl rfl (hx.keep k04) (hy.keep k04) hlt hlg (by omega) _ (fun h H5 k5 n5 => ⟨0, _, rfl, k5, n5, main _ _ (.inl ⟨rfl, h, rfl⟩)⟩) (fun h H5 k5 n5 => ⟨_, 0, rfl, k5, n5, main _ _ (.inr ⟨rfl, h, rfl⟩)⟩)) ?_
 clear main
 rintro v H5 ⟨lg, e, rfl, k5, n5, hfe⟩
 have x5 := k5.nx
 refine ⟨x5, ?_⟩
 have k05 := k04.trans k5
 have b15 := b1.keep (by omega) k5
 have b25 := b2.keep (by omega) k5
 have b35 := b3.keep (by omega) k5
 have g45 := (k5.get _ (by omega)).trans g4
 have r5 : H5.next < 2 ^ 59 := by omega
 have he : ∀ a b : Int, binI .eql .i64 .i64 a b = some (.bool (decide (a = b))) := fun a b => by simp [binI]; rfl
 repeat (first | apply qN | refine qM rfl rfl ?_ | refine zq9 rfl rfl rfl rfl ?_ | apply qR | apply qS)
 refine wops_cons (wop_bin (op := .eql) (v := .bool (decide (lg = 0))) rfl rfl rfl rfl (he _ _) ?_)
 refine wops_cons (wop_callF rfl rfl rfl (fn := Tryz.f70) (by rfl) ?_)
 refine cThat hq H5 _ 18 _ ⟨Nat.le_refl _, ?_⟩
 generalize (if decide (lg = 0) = true then (0 : Int) else 18) = w2 at hfe ⊢
 skip
 refine wops_cons (o_build2 rfl rfl rfl rfl r5 ?_)
 refine WOps.mem (fun H6 => Keeps H5 H6 ∧ H6.next = H5.next + 1 ∧ Sl H6 (.slc H5.next 0 2 2) (ivs [e, w2])) ⟨(Keeps.refl H5).add _ r5, rfl, sl_new (cs := ivs [e, w2]) r5 2⟩ ?_
 rintro H6 ⟨k6, n6, hs6⟩
 refine wops_cons (wop_callF rfl rfl rfl (fn := Tryz.f68) (by rfl) ?_)
 refine cFirst hq H6 _ _ hs6 (by show 2 ≤ 1000; decide) _ ⟨Nat.le_refl _, ?_⟩
 clear hs6
 rw [hfe]
 have x6 := k6.nx
 have k06 := k05.trans k6
 have b16 := b15.keep (by omega) k6
 have b26 := b25.keep (by omega) k6
 have b36 := b35.keep (by omega) k6
 have g46 := (k6.get _ (by omega)).trans g45
 have r6 : H6.next < 2 ^ 59 := by omega
 clear b15 b25 b35 b1 b2 b3
 show WOps _ _ _ _ _ _
 repeat (first | apply qN | refine qM rfl rfl ?_ | apply qR | apply qS)
 refine WOps.cut (fun T => ∃ Y : List AV, T = (lget Y 0 :: lget Y 1 :: lget Y 2 :: .ptr H.next 0 :: .ptr H1.next 0 :: .ptr H2.next 0 :: .ptr H3.next 0 :: lget Y 3 :: lget Y 4 :: lget Y 5 :: iv (nxtE r tk gp k) :: lget Y 6 :: lget Y 7 :: lget Y 8 :: lget Y 9 :: lget Y 10 :: lget Y 11 :: lget Y 12 :: lget Y 13 :: lget Y 14 :: lget Y 15 :: lget Y 16 :: lget Y 17 :: lget Y 18 :: iv (nxtE r tk gp k) :: lget Y 19 :: lget Y 20 :: lget Y 21 :: lget Y 22 :: lget Y 23 :: lget Y 24 :: lget Y 25 :: [])) ⟨[_,_,_,_,_,_,_,_,_,_,_,_,_,_,_,_,_,_,_,_,_,_,_,_,_,_], rfl⟩ ?_
 rintro T ⟨Y, rfl⟩
 by_cases h0 : nxtE r tk gp k = 0
 rotate_left
 · have hke := hke h0
   clear hk
   generalize nxtE r tk gp k = w at h0 hke ⊢
   refine wops_cons (wop_bin (op := .neq) (v := .bool true) rfl rfl rfl rfl (by simp [binI, h0]) ?_)
   repeat (first | apply qN | refine qT rfl ?_ | apply qR | apply qS)
   refine wops_cons (o_buildS0 rfl rfl ?_)
   repeat (first | refine qM rfl rfl ?_)
   refine wops_cons (o_storeA (n := 2) (vs := [.v (.slice none 0 0), .v (.slice none 0 0)]) rfl rfl (by kernel_rfl) rfl rfl rfl rfl g46 (Nat.le_refl _) ?_)
   refine WOps.mem (fun H7 => Keeps H H7 ∧ H7.next = H6.next ∧ H7.get H3.next = some (.cells [.v (.slice none 0 0), .v (.slice none 0 0)] 26 0)) ⟨k06.set _ (by omega) r3, rfl, get_set_eq r3⟩ ?_
   rintro H7 ⟨k7, n7, g7⟩
   repeat (first | apply qN | refine qM rfl rfl ?_)
   refine Wp.cut (fun T => ∃ Y : List AV, T = (lget Y 0 :: lget Y 1 :: lget Y 2 :: lget Y 3 :: lget Y 4 :: lget Y 5 :: .ptr H3.next 0 :: iv w :: lget Y 6 :: lget Y 7 :: lget Y 8 :: lget Y 9 :: lget Y 10 :: lget Y 11 :: lget Y 12 :: lget Y 13 :: lget Y 14 :: lget Y 15 :: lget Y 16 :: lget Y 17 :: lget Y 18 :: lget Y 19 :: lget Y 20 :: lget Y 21 :: lget Y 22 :: lget Y 23 :: lget Y 24 :: lget Y 25 :: lget Y 26 :: lget Y 27 :: lget Y 28 :: lget Y 29 :: [])) ⟨[_,_,_,_,_,_,_,_,_,_,_,_,_,_,_,_,_,_,_,_,_,_,_,_,_,_,_,_,_,_], rfl⟩ ?_
   rintro T ⟨Y, rfl⟩
   refine wp_ret ?_
   refine ⟨.tup [.agg [.v (.slice none 0 0), .v (.slice none 0 0)], iv w], H7, ?_, hke H7 k7 (by omega)⟩
   have hres : resA Tryz.prog (lget Y 0 :: lget Y 1 :: lget Y 2 :: lget Y 3 :: lget Y 4 :: lget Y 5 :: .ptr H3.next 0 :: iv w :: lget Y 6 :: lget Y 7 :: lget Y 8 :: lget Y 9 :: lget Y 10 :: lget Y 11 :: lget Y 12 :: lget Y 13 :: lget Y 14 :: lget Y 15 :: lget Y 16 :: lget Y 17 :: lget Y 18 :: lget Y 19 :: lget Y 20 :: lget Y 21 :: lget Y 22 :: lget Y 23 :: lget Y 24 :: lget Y 25 :: lget Y 26 :: lget Y 27 :: lget Y 28 :: lget Y 29 :: []) H7 Tryz.f20.results.toList = some [.agg [.v (.slice none 0 0), .v (.slice none 0 0)], iv w] := by
     show (match loadA Tryz.prog 26 H3.next 0 H7, (some [iv w] : Option (List AV)) with | some x, some m => some (x :: m) | _, _ => none) = _
     rw [load2 g7]
   unfold leaveM resultsA
   simp only [takeMarks]
   rw [show (ENV O).P = Tryz.prog from rfl, hres]
 have hk := hk h0
 clear hke
 rw [h0]
 have he0 : errE r tk gp k = 0 := by
   unfold nxtE at h0
   by_cases h : errE r tk gp k = 0
   · exact h
   · rw [if_neg h] at h0; exact absurd h0 h
 obtain ⟨e1, e2⟩ := errE_0 he0
 obtain ⟨j, z, g, hT, hlg'⟩ := tkd_of e1 e2
 refine wops_cons (wop_bin (op := .neq) (v := .bool false) rfl rfl rfl rfl rfl ?_)
 repeat (first | apply qN | refine zqb rfl rfl rfl ‹_› ?_ | refine qF rfl ?_ | apply qR | apply qS | apply qK)
 refine wops_cons (wop_callF rfl rfl rfl (fn := Tryz.f80) (by rfl) ?_)
 refine c80x hq H6 r k _ _ x y tk gp j z g rfl rfl hT (hx.keep k06) (hy.keep k06) (by omega) _ fun H7 b c k7 n7 hO1 hO2 hb hc => ⟨k7.nx, ?_⟩
 have g47 := (k7.get _ (by omega)).trans g46
 have x7 := k7.nx
 have a19 := hO1.2.1
 have a29 := hO2.2.1
 have hlt1 := hO1.1
 have hlt2 := hO2.1
 skip
 refine wops_cons (o_storeA (n := 2) (vs := [.slu b 0 tk.length 1, .slu c 0 gp.length 1]) rfl rfl (by kernel_rfl) rfl rfl rfl rfl g47 (Nat.le_refl _) ?_)
 refine WOps.mem (fun H8 => Keeps H H8 ∧ H8.next = H7.next ∧ H8.get H3.next = some (.cells [.slu b 0 tk.length 1, .slu c 0 gp.length 1] 26 0) ∧ Own H8 b (tk.set j (z + 1)) ∧ Own H8 c (gp.set j (gapA r k g))) ⟨(k06.trans k7).set _ (by omega) r3, rfl, get_set_eq r3, ⟨hlt1, a19, by rw [get_set_ne r3 (by omega)]; exact hO1.2.2⟩, ⟨hlt2, a29, by rw [get_set_ne r3 (by omega)]; exact hO2.2.2⟩⟩ ?_
 rintro H8 ⟨k8, n8, g8, hQ1, hQ2⟩
 repeat (first | apply qN | refine qM rfl rfl ?_)
 refine Wp.cut (fun T => ∃ Y : List AV, T = (lget Y 0 :: lget Y 1 :: lget Y 2 :: lget Y 3 :: lget Y 4 :: lget Y 5 :: .ptr H3.next 0 :: iv 0 :: lget Y 6 :: lget Y 7 :: lget Y 8 :: lget Y 9 :: lget Y 10 :: lget Y 11 :: lget Y 12 :: lget Y 13 :: lget Y 14 :: lget Y 15 :: lget Y 16 :: lget Y 17 :: lget Y 18 :: lget Y 19 :: lget Y 20 :: lget Y 21 :: lget Y 22 :: lget Y 23 :: lget Y 24 :: lget Y 25 :: lget Y 26 :: lget Y 27 :: lget Y 28 :: lget Y 29 :: [])) ⟨[_,_,_,_,_,_,_,_,_,_,_,_,_,_,_,_,_,_,_,_,_,_,_,_,_,_,_,_,_,_], rfl⟩ ?_
 rintro T ⟨Y, rfl⟩
 refine wp_ret ?_
 refine ⟨.tup [.agg [.slu b 0 tk.length 1, .slu c 0 gp.length 1], iv 0], H8, ?_, hk H8 b c j z g hT k8 (by omega) hQ1 hQ2⟩
 have hres : resA Tryz.prog (lget Y 0 :: lget Y 1 :: lget Y 2 :: lget Y 3 :: lget Y 4 :: lget Y 5 :: .ptr H3.next 0 :: iv 0 :: lget Y 6 :: lget Y 7 :: lget Y 8 :: lget Y 9 :: lget Y 10 :: lget Y 11 :: lget Y 12 :: lget Y 13 :: lget Y 14 :: lget Y 15 :: lget Y 16 :: lget Y 17 :: lget Y 18 :: lget Y 19 :: lget Y 20 :: lget Y 21 :: lget Y 22 :: lget Y 23 :: lget Y 24 :: lget Y 25 :: lget Y 26 :: lget Y 27 :: lget Y 28 :: lget Y 29 :: []) H8 Tryz.f20.results.toList = some [.agg [.slu b 0 tk.length 1, .slu c 0 gp.length 1], iv 0] := by
   show (match loadA Tryz.prog 26 H3.next 0 H8, (some [iv 0] : Option (List AV)) with | some x, some m => some (x :: m) | _, _ => none) = _
   rw [load2 g8]
 unfold leaveM resultsA
 simp only [takeMarks]
 rw [show (ENV O).P = Tryz.prog from rfl, hres]
end Go.Ev
