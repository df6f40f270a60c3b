/- Part of an evaluator of calls that is proved sound, and of what it gives about this program. No condition of its own. -/
import Derived.Test.YtanaplokhjgfmaaGreatDoorEvEh
set_option linter.unusedVariables false
set_option linter.unusedSimpArgs false
set_option linter.unusedSectionVars false
set_option maxRecDepth 100000
set_option maxHeartbeats 4000000
namespace Go.Ev
open Go.Proofs
class StS (t : TypeId) : Prop where
 z : runPure Tryz.prog (zeroValue t) = some (.agg #[.slice none 0 0, .slice none 0 0])
 u : runPure Tryz.prog (underlying t) = some (.struct (flds t))
 p : runPure Tryz.prog ((flds t).mapM fun f => do pure (f.offset, ← sizeOf f.type)) = some #[(0, 1), (1, 1)]
instance : StS 26 := ⟨by kernel_rfl, by kernel_rfl, by kernel_rfl⟩
instance : StS 30 := ⟨by kernel_rfl, by kernel_rfl, by kernel_rfl⟩
theorem build_S {t : TypeId} [hp : StS t] {T : List AV} {x y : Operand} {v w : AV} (hx : av T x = v) (hy : av T y = w) (h1 : v.one = true) (h2 : w.one = true) : buildA Tryz.prog T t #[(0, x), (1, y)] = some (.agg [v, w]) := by
 have e1 := hp.z
 have e2 := hp.u
 have e3 := hp.p
 simp only [buildA, e1, e2, e3]
 have e : (#[(0, x), (1, y)] : Array (Nat × Operand)).toList.map (fun p => (p.1, av T p.2)) = [(0, v), (1, w)] := by simp [hx, hy]
 rw [e]
 simp [fillA, cells_one h1, cells_one h2, wr, Value.cells]
section
variable {O : CallF} {T : List AV} {H H0 : AH} {ops : Array Oper} {o : Oper} {i : Nat} {π : List Stp} {B : Nat → Nat → Prop}
theorem k_buildS {K : List AV → AH → Prop} {t : TypeId} {x y : Operand} {v w : AV} (h1 : ops.toList[i]? = some o) (ho : o.op = .build t #[(0, x), (1, y)]) (hg : wantedA o ops T = true) [hp : StS t] (hx : av T x = v) (hy : av T y = w) (hv : v.one = true) (hw : w.one = true) (hk : WK (ENV O) ops H0 π (putA T o.dst (.agg [v, w])) H K) : WK (ENV O) ops H0 (.mob i :: π) T H K := by
 refine k_mob h1 hg ?_ (fun b hb => by rw [rdA_none (by unfold looksB; rw [ho])] at hb; cases hb) hk
 unfold mobEval; rw [ho]
 exact build_S hx hy hv hw
theorem y_buildS {K : List AV → AH → Prop} {t : TypeId} {x y : Operand} {v w : AV} (h1 : ops.toList[i]? = some o) (ho : o.op = .build t #[(0, x), (1, y)]) (hg : wantedA o ops T = true) [hp : StS t] (hx : av T x = v) (hy : av T y = w) (hv : v.one = true) (hw : w.one = true) (hk : WY (ENV O) ops H0 B π (putA T o.dst (.agg [v, w])) H K) : WY (ENV O) ops H0 B (.mob i :: π) T H K := by
 refine y_mob h1 hg ?_ (fun b hb => by rw [rdA_none (by unfold looksB; rw [ho])] at hb; cases hb) hk
 unfold mobEval; rw [ho]
 exact build_S hx hy hv hw
theorem o_buildS0 {K : AV → AH → Prop} {t : TypeId} (ho : o.op = .build t #[]) (hg : wantedA o ops T = true) [hp : StS t] (hk : K (.agg [.v (.slice none 0 0), .v (.slice none 0 0)]) H) : WOp (ENV O) ops o T H K := by
 refine wop_val (by rw [ho]; rfl) hg (r := .agg [.v (.slice none 0 0), .v (.slice none 0 0)]) (H' := H) ?_ (Nat.le_refl _) hk
 unfold opEval; rw [ho]
 have h1 := hp.z
 have h2 := hp.u
 have h3 := hp.p
 simp only [ENV, buildA, h1, h2, h3]
 rfl
end
def slu (b n : Nat) : AV := .slu b 0 n 1
def Own (H : AH) (b : Nat) (l : List Int) : Prop := b < H.next ∧ b < 2 ^ 59 ∧ H.get b = some (.cells (ivs l) 3 1)
theorem Own.ky {H : AH} {b : Nat} {l : List Int} (h : Own H b l) : Ky H (.slu b 0 l.length 1) l := Ap.ky (.inr (.inr ⟨b, rfl, h.1, h.2.1, h.2.2⟩))
theorem Own.keep {H H' : AH} {b : Nat} {l : List Int} (h : Own H b l) (k : Keeps H H') : Own H' b l := ⟨Nat.lt_of_lt_of_le h.1 k.nx, h.2.1, (k.get b h.1).trans h.2.2⟩
theorem Ap.own1 {H : AH} {r : AV} {l : List Int} (h : Ap H r l) (hne : l ≠ []) : ∃ b, r = .slu b 0 l.length 1 ∧ Own H b l := by
 rcases h with ⟨_, h⟩ | ⟨b, _, h, _⟩ | ⟨b, h0, h1, h2, h3⟩
 · exact absurd h hne
 · exact absurd h hne
 · exact ⟨b, h0, h1, h2, h3⟩
variable {O : CallF} (hq : Quiet O)
include hq
theorem c80 (H : AH) (r : Ru) (k : Tk) (rv kv : AV) (x y : Value) (tk gp : List Int) (j : Nat) (z g : Int) (hrv : rv.cells = r.cs) (hkv : kv.cells = k.cs) (hT : Tkd r tk gp k j z g) (hx : Ky H (.v x) tk) (hy : Ky H (.v y) gp) (hr : H.next + 200 < 2 ^ 59) (K : AV → AH → Prop)
   (hk : ∀ H' b c, Keeps H H' → H'.next ≤ H.next + 60 → Own H' b (tk.set j (z + 1)) → Own H' c (gp.set j (gapA r k g)) → H.next ≤ b → H.next ≤ c → K (.agg [.slu b 0 tk.length 1, .slu c 0 gp.length 1]) H') : Ca (ENV O) 80 [rv, .agg [.v x, .v y], kv] H K := by
 refine ca_intro (hq _ _ _ rfl) (fn := Tryz.f80) (by rfl) rfl ?_
 have r0 : H.next < 2 ^ 59 := by omega
 have hl := hT.lens
 have hjl : j < tk.length := (List.getElem?_eq_some_iff.1 hT.z).1
 repeat (first | apply qR | apply qS)
 refine wops_cons (o_boxS (cs := r.cs) rfl rfl hrv r0 fun H1 n1 k1 b1 => ?_)
 have r1 : H1.next < 2 ^ 59 := by omega
 refine wops_cons (o_boxS (cs := [.v x, .v y]) rfl rfl rfl r1 fun H2 n2 k2 b2 => ?_)
 have r2 : H2.next < 2 ^ 59 := by omega
 refine wops_cons (o_boxS (cs := k.cs) rfl rfl hkv r2 fun H3 n3 k3 b3 => ?_)
 have r3 : H3.next < 2 ^ 59 := by omega
 refine wops_cons (o_allocA (zs := [.v (.slice none 0 0), .v (.slice none 0 0)]) rfl rfl (z := .agg #[.slice none 0 0, .slice none 0 0]) (by kernel_rfl) rfl r3 ?_)
 refine WOps.mem (fun H4 => Keeps H3 H4 ∧ H4.next = H3.next + 1 ∧ H4.get H3.next = some (.cells [.v (.slice none 0 0), .v (.slice none 0 0)] 26 0)) ⟨(Keeps.refl H3).add _ r3, rfl, get_add_eq r3⟩ ?_
 rintro H4 ⟨k4, n4, g4⟩
 have x1 := k1.nx
 have x2 := k2.nx
 have x3 := k3.nx
 have k03 := (k1.trans k2).trans k3
 have k04 := k03.trans k4
 have b1 := b1.keep (by omega) ((k2.trans k3).trans k4)
 have b2 := b2.keep (by omega) (k3.trans k4)
 have b3 := b3.keep (by omega) k4
 show WOps _ _ _ _ _ _
 repeat (first | apply qN | refine zqb rfl rfl rfl ‹_› ?_ | apply qR | apply qS)
 refine wops_cons (wop_callF rfl rfl rfl (fn := Tryz.f138) (by rfl) ?_)
 refine c138 hq H4 r k _ _ _ _ tk gp j z g rfl rfl hT (hx.keep k04) (hy.keep k04) (by omega) _ fun H5 k5 n5 => ⟨k5.nx, ?_⟩
 have x5 := k5.nx
 have r5 : H5.next < 2 ^ 59 := by omega
 have k45 := k5
 skip
 refine wops_cons (o_allocA (zs := [iv 0, iv 0]) rfl rfl (z := .agg #[.int .i64 0, .int .i64 0]) (by kernel_rfl) rfl r5 ?_)
 refine wops_cons (o_storeA (n := 2) (vs := [iv (z + 1), iv (gapA r k g)]) rfl rfl (by kernel_rfl) rfl rfl rfl rfl (get_add_eq r5) (Nat.le_refl _) ?_)
 refine WOps.mem (fun H6 => Keeps H5 H6 ∧ H6.next = H5.next + 1 ∧ Bk H6 H5.next 189 [iv (z + 1), iv (gapA r k g)]) ⟨((Keeps.refl H5).add _ r5).set _ (Nat.le_refl _) r5, rfl, ⟨r5, get_set_eq r5⟩⟩ ?_
 rintro H6 ⟨k6, n6, b6⟩
 have x6 := k6.nx
 have r6 : H6.next < 2 ^ 59 := by omega
 have k46 := k5.trans k6
 have k06 := k04.trans k46
 have b26 := b2.keep (by omega) k46
 have hx6 := hx.keep k06
 have hy6 := hy.keep k06
 have s0 : At H6 (.ptr H1.next 0) (.v x) := b26.at rfl
 have s1 : At H6 (.ptr H1.next 1) (.v y) := b26.at rfl
 have sb : beqs [AV.v x, AV.v y] [AV.v x, AV.v y] = true := by simp [beqs, hx6.sl.beq, hy6.sl.beq]
 have M := fun n => lkP (n := n) b26 (by omega) sb
 show WOps _ _ _ _ _ _
 repeat (first | apply qN | apply qS)
 refine wp_drawK rfl ?_
 refine k_field rfl rfl rfl rfl ?_
 refine k_load rfl rfl rfl s0 (M _) ?_
 refine k_field rfl rfl rfl rfl ?_
 refine k_load rfl rfl rfl s1 (M _) ?_
 refine k_call rfl rfl rfl (fun b h => by cases h) (wop_callF rfl rfl rfl (fn := Tryz.f139) (by rfl) ?_)
 refine cClone hq H6 x tk hx6.sl (by omega) (by omega) _ fun H7 c1 k7 n7 hA1 hn1 => ⟨k7.nx, k7, ?_⟩
 have x7 := k7.nx
 refine k_call rfl rfl rfl (fun b h => by cases h) (wop_callF rfl rfl rfl (fn := Tryz.f139) (by rfl) ?_)
 refine cClone hq H7 y gp (hy6.keep k7).sl (by omega) (by omega) _ fun H8 c2 k8 n8 hA2 hn2 => ⟨k8.nx, k7.trans k8, ?_⟩
 have x8 := k8.nx
 have r8 : H8.next < 2 ^ 59 := by omega
 obtain ⟨a1, rfl, hO1⟩ := hA1.own1 hT.ne
 obtain ⟨a2, rfl, hO2⟩ := hA2.own1 (fun e => by rw [e] at hl; have := hT.ne; cases tk with | nil => exact this rfl | cons => simp at hl)
 have ha1 := hn1 a1 rfl
 have ha2 := hn2 a2 rfl
 have ha12 : a1 < a2 := by have := hO1.1; omega
 have hO1 := hO1.keep k8
 refine k_buildS rfl rfl rfl rfl rfl rfl rfl ?_
 refine k_allocA (zs := [.v (.slice none 0 0), .v (.slice none 0 0)]) rfl rfl rfl (z := .agg #[.slice none 0 0, .slice none 0 0]) (by kernel_rfl) rfl r8 ?_
 refine k_loud rfl rfl (o_storeA (n := 2) (vs := [.slu a1 0 tk.length 1, .slu a2 0 gp.length 1]) rfl rfl (by kernel_rfl) rfl rfl rfl rfl (get_add_eq r8) (Nat.le_refl _) ⟨((k7.trans k8).add _ r8).set _ (by omega) r8, ?_⟩)
 refine WK.mem (fun H9 => Keeps H8 H9 ∧ H9.next = H8.next + 1 ∧ Bk H9 H8.next 26 [.slu a1 0 tk.length 1, .slu a2 0 gp.length 1]) ⟨((Keeps.refl H8).add _ r8).set _ (Nat.le_refl _) r8, rfl, ⟨r8, get_set_eq r8⟩⟩ ?_
 rintro H9 ⟨k9, n9, b9⟩
 have x9 := k9.nx
 have k69 := (k7.trans k8).trans k9
 have k49 := k46.trans k69
 have k09 := k04.trans k49
 have hO19 := hO1.keep k9
 have hO29 := hO2.keep k9
 have b39 := b3.keep (by omega) k49
 have b69 := b6.keep (by omega) k69
 have g49 := (k49.get _ (by omega)).trans g4
 have q0 : At H9 (.ptr H2.next 0) (iv (j : Nat)) := by rw [← hT.a]; exact b39.at rfl
 have t80 : At H9 (.ptr H8.next 0) (.slu a1 0 tk.length 1) := b9.at rfl
 have t81 : At H9 (.ptr H8.next 1) (.slu a2 0 gp.length 1) := b9.at rfl
 have t70 : At H9 (.ptr H5.next 0) (iv (z + 1)) := b69.at rfl
 have t71 : At H9 (.ptr H5.next 1) (iv (gapA r k g)) := b69.at rfl
 have a18 := hO1.1
 have a28 := hO2.1
 have a19 := hO19.2.1
 have a29 := hO29.2.1
 have sm : ∀ b, b = H8.next ∨ b = H2.next ∨ b = H5.next → sameBlk (H9.get b) (H9.get b) = true := fun b hb => by
   rcases hb with rfl | rfl | rfl
   · rw [b9.g]; simp [sameBlk, beqs, AV.beq]
   · rw [b39.g]; simp [sameBlk, tk_beq]
   · rw [b69.g]; simp [sameBlk, beqs, AV.beq, iv, vbeq]
 have nb : ∀ b, b = H8.next ∨ b = H2.next ∨ b = H5.next → b ≠ a1 ∧ b ≠ a2 := fun b hb => by
   rcases hb with rfl | rfl | rfl <;> omega
 show WK _ _ _ _ _ _ _
 repeat (first | refine k_nil ?_ | apply qS)
 refine wp_drawY (fun _ b => b = H8.next ∨ b = H2.next ∨ b = H5.next) rfl ?_
 refine y_field rfl rfl rfl rfl ?_
 refine y_load rfl rfl rfl t80 (fun b hb => by cases hb; exact .inl rfl) ?_
 refine y_field rfl rfl rfl rfl ?_
 refine y_load rfl rfl rfl q0 (fun b hb => by cases hb; exact .inr (.inl rfl)) ?_
 refine y_field rfl rfl rfl rfl ?_
 refine y_load rfl rfl rfl t81 (fun b hb => by cases hb; exact .inl rfl) ?_
 refine y_field rfl rfl rfl rfl ?_
 refine y_load rfl rfl rfl q0 (fun b hb => by cases hb; exact .inr (.inl rfl)) ?_
 refine y_field rfl rfl rfl rfl ?_
 refine y_load rfl rfl rfl t70 (fun b hb => by cases hb; exact .inr (.inr rfl)) ?_
 refine y_field rfl rfl rfl rfl ?_
 refine y_load rfl rfl rfl t71 (fun b hb => by cases hb; exact .inr (.inr rfl)) ?_
 refine y_indexU rfl rfl rfl rfl rfl hjl ?_
 refine y_loud rfl rfl (o_store rfl rfl rfl hO19.2.2 (by rw [ivs_length]; exact hjl) rfl ⟨fun _ b hb => .inr (by rw [get_set_ne a19 (nb b hb).1]; exact sm b hb), ?_⟩)
 refine y_indexU rfl rfl rfl rfl rfl (by omega) ?_
 refine y_loud rfl rfl (o_store rfl rfl rfl ((get_set_ne a19 (by omega)).trans hO29.2.2) (by rw [ivs_length]; omega) rfl ⟨fun _ b hb => .inr (by rw [get_set_ne a29 (nb b hb).2, get_set_ne a19 (nb b hb).1]; exact sm b hb), ?_⟩)
 refine y_nil ?_
 refine Wp.mem (fun H10 => Keeps H H10 ∧ H10.next = H9.next ∧ Bk H10 H8.next 26 [.slu a1 0 tk.length 1, .slu a2 0 gp.length 1] ∧ Own H10 a1 (tk.set j (z + 1)) ∧ Own H10 a2 (gp.set j (gapA r k g)) ∧ H10.get H3.next = some (.cells [.v (.slice none 0 0), .v (.slice none 0 0)] 26 0)) ⟨?_, rfl, ⟨r8, ?_⟩, ⟨by show a1 < H9.next; omega, a19, ?_⟩, ⟨by show a2 < H9.next; omega, a29, ?_⟩, ?_⟩ ?_
 · exact (k09.set _ (by omega) a19).set _ (by omega) a29
 · rw [get_set_ne a29 (by omega), get_set_ne a19 (by omega)]; exact b9.g
 · rw [get_set_ne a29 (by omega), get_set_eq a19, ← ivs_set]; rfl
 · rw [get_set_eq a29, ← ivs_set]; rfl
 · rw [get_set_ne a29 (by omega), get_set_ne a19 (by omega)]; exact g49
 rintro H10 ⟨k10, n10, b10, hP1, hP2, g10⟩
 repeat (first | refine zqb rfl rfl rfl ‹_› ?_ | apply qR | apply qS)
 refine wops_cons (o_storeA (n := 2) (vs := [.slu a1 0 tk.length 1, .slu a2 0 gp.length 1]) rfl rfl (by kernel_rfl) rfl rfl rfl rfl g10 (Nat.le_refl _) ?_)
 refine WOps.mem (fun H11 => Keeps H H11 ∧ H11.next = H10.next ∧ H11.get H3.next = some (.cells [.slu a1 0 tk.length 1, .slu a2 0 gp.length 1] 26 0) ∧ Own H11 a1 (tk.set j (z + 1)) ∧ Own H11 a2 (gp.set j (gapA r k g))) ⟨k10.set _ (by omega) r3, rfl, get_set_eq r3, ⟨hP1.1, a19, by rw [get_set_ne r3 (by omega)]; exact hP1.2.2⟩, ⟨hP2.1, a29, by rw [get_set_ne r3 (by omega)]; exact hP2.2.2⟩⟩ ?_
 rintro H11 ⟨k11, n11, g11, hQ1, hQ2⟩
 repeat (first | apply qN)
 refine Wp.cut (fun T => ∃ Y : List AV, T = (lget Y 0 :: lget Y 1 :: lget Y 2 :: lget Y 3 :: lget Y 4 :: lget Y 5 :: .ptr H3.next 0 :: lget Y 6 :: lget Y 7 :: lget Y 8 :: lget Y 9 :: lget Y 10 :: lget Y 11 :: lget Y 12 :: lget Y 13 :: lget Y 14 :: lget Y 15 :: lget Y 16 :: lget Y 17 :: lget Y 18 :: lget Y 19 :: lget Y 20 :: lget Y 21 :: lget Y 22 :: lget Y 23 :: lget Y 24 :: lget Y 25 :: lget Y 26 :: lget Y 27 :: lget Y 28 :: lget Y 29 :: lget Y 30 :: lget Y 31 :: lget Y 32 :: lget Y 33 :: [])) ⟨[_,_,_,_,_,_,_,_,_,_,_,_,_,_,_,_,_,_,_,_,_,_,_,_,_,_,_,_,_,_,_,_,_,_], rfl⟩ ?_
 rintro T ⟨Y, rfl⟩
 refine wp_ret ?_
 refine ⟨.agg [.slu a1 0 tk.length 1, .slu a2 0 gp.length 1], H11, ?_, hk H11 a1 a2 k11 (by omega) hQ1 hQ2 (by omega) (by omega)⟩
 have hres : resA Tryz.prog (lget Y 0 :: lget Y 1 :: lget Y 2 :: lget Y 3 :: lget Y 4 :: lget Y 5 :: .ptr H3.next 0 :: lget Y 6 :: lget Y 7 :: lget Y 8 :: lget Y 9 :: lget Y 10 :: lget Y 11 :: lget Y 12 :: lget Y 13 :: lget Y 14 :: lget Y 15 :: lget Y 16 :: lget Y 17 :: lget Y 18 :: lget Y 19 :: lget Y 20 :: lget Y 21 :: lget Y 22 :: lget Y 23 :: lget Y 24 :: lget Y 25 :: lget Y 26 :: lget Y 27 :: lget Y 28 :: lget Y 29 :: lget Y 30 :: lget Y 31 :: lget Y 32 :: lget Y 33 :: []) H11 Tryz.f80.results.toList = some [.agg [.slu a1 0 tk.length 1, .slu a2 0 gp.length 1]] := by
   show (match loadA Tryz.prog 26 H3.next 0 H11, (some [] : Option (List AV)) with | some x, some m => some (x :: m) | _, _ => none) = _
   rw [load2 g11]
 unfold leaveM resultsA
 simp only [takeMarks]
 rw [show (ENV O).P = Tryz.prog from rfl, hres]
end Go.Ev
