/- Part of an evaluator of calls that is proved sound, and of what it gives about this program. No condition of its own. -/
import Derived.Test.YtanaplokhjgfmaaGreatDoorEwDe
set_option linter.unusedVariables false
set_option linter.unusedSimpArgs false
set_option linter.unusedSectionVars false
set_option maxRecDepth 100000
set_option maxHeartbeats 4000000
namespace Go.Ev
open Go.Proofs
theorem take_snocP {l : List (Int × Int)} {i : Nat} {p : Int × Int} (h : l[i]? = some p) : l.take (i + 1) = l.take i ++ [p] := by
 rw [List.take_add_one, h]; rfl
variable {O : CallF} (hq : Quiet O)
include hq
theorem c34 (H : AH) (f : Int) (xb : Nat) (ms : List (Int × Int)) (hxb : xb < H.next) (hgx : H.get xb = some (.cells (fl2 ms) 120 0)) (hml : ms.length ≤ 1000) (hr : H.next + 20000 < 2 ^ 59) (K : AV → AH → Prop)
   (hk : ∀ H' r, Keeps H H' → H'.next ≤ H.next + 3 + 2 * ms.length → G2 H' 144 r ms → (∀ d, r.own = some d → H.next ≤ d) → K (.agg [iv f, r]) H') : Ca (ENV O) 34 [.agg [iv f, .slc xb 0 ms.length ms.length]] H K := by
 refine ca_intro (hq _ _ _ rfl) (fn := Tryz.f34) (by rfl) rfl ?_
 have r0 : H.next < 2 ^ 59 := by omega
 repeat (first | apply qR | apply qS)
 refine wops_cons (o_boxS (cs := [iv f, .slc xb 0 ms.length ms.length]) rfl rfl rfl r0 fun H0 n0 k0 b0 => ?_)
 have ra : H0.next < 2 ^ 59 := by omega
 refine wops_cons (o_allocA (zs := [iv 0, .v (.slice none 0 0)]) rfl rfl (z := .agg #[.int .i64 0, .slice none 0 0]) (by kernel_rfl) rfl ra ?_)
 refine WOps.mem (fun H1 => Keeps H0 H1 ∧ H1.next = H0.next + 1 ∧ H1.get H0.next = some (.cells [iv 0, .v (.slice none 0 0)] 74 0)) ⟨(Keeps.refl H0).add _ ra, rfl, get_add_eq ra⟩ ?_
 rintro H1 ⟨k1, n1, g1⟩
 have r1 : H1.next < 2 ^ 59 := by omega
 have b1 := b0.keep (by omega) k1
 have hp0 : At H1 (.ptr H.next 0) (iv f) := b1.at rfl
 repeat (first | apply qN | refine zqa rfl rfl rfl ?_ | refine zq6 rfl rfl ‹_› ?_ | apply qR | apply qS)
 refine wops_cons (o_buildN1 rfl rfl rfl ?_)
 refine wops_cons (o_allocA (zs := [iv 0, .v (.slice none 0 0)]) rfl rfl (z := .agg #[.int .i64 0, .slice none 0 0]) (by kernel_rfl) rfl r1 ?_)
 refine wops_cons (o_storeA (n := 2) (vs := [iv f, .v (.slice none 0 0)]) rfl rfl (by kernel_rfl) rfl rfl rfl rfl (get_add_eq r1) (Nat.le_refl _) ?_)
 refine WOps.mem (fun H2 => Keeps H H2 ∧ H2.next = H.next + 3 ∧ H2.get H0.next = some (.cells [iv 0, .v (.slice none 0 0)] 74 0) ∧ H2.get H1.next = some (.cells [iv f, .v (.slice none 0 0)] 74 0) ∧ Bk H2 H.next 67 [iv f, .slc xb 0 ms.length ms.length]) ⟨((k0.trans k1).add _ r1).set _ (by omega) r1, by show H1.next + 1 = _; omega, ?_, get_set_eq r1, ⟨r0, ?_⟩⟩ ?_
 · rw [get_set_ne r1 (by omega), get_add_ne r1 (by omega)]; exact g1
 · rw [get_set_ne r1 (by omega), get_add_ne r1 (by omega)]; exact b1.g
 rintro H2 ⟨k2, n2, g2a, g2, b2⟩
 show WOps _ _ _ _ _ _
 repeat (first | apply qN | refine qM rfl rfl ?_ | apply qR | apply qS | apply qB)
 refine wp_loop (fun q T M H' => ∃ (i : Nat) (r : AV) (Y : List AV), q = ms.length - i ∧ i ≤ ms.length ∧ Keeps H H' ∧ H2.next ≤ H'.next ∧ H'.next ≤ H2.next + 2 * i ∧ H'.get H0.next = some (.cells [iv 0, .v (.slice none 0 0)] 74 0) ∧ H'.get H1.next = some (.cells [iv f, r] 74 0) ∧ Bk H' H.next 67 [iv f, .slc xb 0 ms.length ms.length] ∧ G2 H' 144 r (ms.take i) ∧ (∀ d, r.own = some d → H2.next ≤ d) ∧ r.one = true ∧ r.beq r = true ∧ M = [] ∧ T = (lget Y 0 :: .ptr H.next 0 :: .ptr H0.next 0 :: .ptr H1.next 0 :: iv (i : Nat) :: lget Y 1 :: lget Y 2 :: lget Y 3 :: lget Y 4 :: lget Y 5 :: lget Y 6 :: lget Y 7 :: lget Y 8 :: lget Y 9 :: lget Y 10 :: lget Y 11 :: lget Y 12 :: lget Y 13 :: lget Y 14 :: lget Y 15 :: lget Y 16 :: lget Y 17 :: lget Y 18 :: lget Y 19 :: lget Y 20 :: lget Y 21 :: [])) ms.length
   ⟨0, .v (.slice none 0 0), [_,_,_,_,_,_,_,_,_,_,_,_,_,_,_,_,_,_,_,_,_,_], rfl, Nat.zero_le _, k2, Nat.le_refl _, Nat.le_refl _, g2a, g2, b2, .inl ⟨rfl, rfl⟩, (fun d hd => by cases hd), rfl, rfl, rfl, rfl⟩ ?_
 rintro q T M H4 ⟨i, r, Y, hq4, hi, k4, n4, n4', g4a, g4, b4, hG, hown, hr1, hrb, rfl, rfl⟩
 have hp1 : At H4 (.ptr H.next 1) (.slc xb 0 ms.length ms.length) := b4.at rfl
 have gx4 := (k4.get xb hxb).trans hgx
 have hx4 : S2 H4 120 (.slc xb 0 ms.length ms.length) ms := .inr ⟨xb, by have := k4.nx; omega, by omega, .inl ⟨_, rfl, gx4⟩⟩
 repeat (first | refine qM rfl rfl ?_ | refine zqa rfl rfl rfl ?_ | refine zq6 rfl rfl ‹_› ?_ | apply qR | apply qS)
 refine wops_cons (o_len2 rfl rfl rfl rfl rfl hx4 ?_)
 refine wops_cons (wop_cmp rfl rfl rfl rfl rfl (fun h => ?_) (fun h => ?_))
 rotate_left
 · have h : ¬ ((i : Int) < (ms.length : Nat)) := of_decide_eq_false h
   have e : i = ms.length := by omega
   subst e
   rw [List.take_length] at hG
   have b4' : Bk H4 H1.next 74 [iv f, r] := ⟨r1, g4⟩
   repeat (first | apply qN | refine zqb rfl rfl rfl ‹_› ?_ | refine qF rfl ?_ | apply qR | apply qS | apply qE)
   refine wops_cons (o_storeA (n := 2) (vs := [iv f, r]) rfl rfl (by kernel_rfl) rfl rfl rfl (by show (AV.one (iv f) && (AV.one r && true)) = true; rw [hr1]; rfl) g4a (Nat.le_refl _) ?_)
   refine WOps.mem (fun H5 => Keeps H H5 ∧ H5.next = H4.next ∧ H5.get H0.next = some (.cells [iv f, r] 74 0) ∧ G2 H5 144 r ms) ⟨k4.set _ (by omega) ra, rfl, get_set_eq ra, ?_⟩ ?_
   · rcases hG with h | ⟨d, h1, h2, h3, h4⟩
     · exact .inl h
     · have := hown d (by rw [h3]; rfl)
       exact .inr ⟨d, h1, h2, h3, by rw [get_set_ne ra (by omega)]; exact h4⟩
   rintro H5 ⟨k5, n5, g5, hG5⟩
   repeat (first | apply qN)
   refine Wp.cut (fun T => ∃ Y : List AV, T = (lget Y 0 :: lget Y 1 :: .ptr H0.next 0 :: lget Y 2 :: lget Y 3 :: lget Y 4 :: lget Y 5 :: lget Y 6 :: lget Y 7 :: lget Y 8 :: lget Y 9 :: lget Y 10 :: lget Y 11 :: lget Y 12 :: lget Y 13 :: lget Y 14 :: lget Y 15 :: lget Y 16 :: lget Y 17 :: lget Y 18 :: lget Y 19 :: lget Y 20 :: lget Y 21 :: lget Y 22 :: lget Y 23 :: lget Y 24 :: [])) ⟨[_,_,_,_,_,_,_,_,_,_,_,_,_,_,_,_,_,_,_,_,_,_,_,_,_], rfl⟩ ?_
   rintro T ⟨Y, rfl⟩
   refine wp_ret ?_
   refine ⟨.agg [iv f, r], H5, ?_, hk H5 r k5 (by omega) hG5 (fun d hd => by have := hown d hd; omega)⟩
   have hres : resA Tryz.prog (lget Y 0 :: lget Y 1 :: .ptr H0.next 0 :: lget Y 2 :: lget Y 3 :: lget Y 4 :: lget Y 5 :: lget Y 6 :: lget Y 7 :: lget Y 8 :: lget Y 9 :: lget Y 10 :: lget Y 11 :: lget Y 12 :: lget Y 13 :: lget Y 14 :: lget Y 15 :: lget Y 16 :: lget Y 17 :: lget Y 18 :: lget Y 19 :: lget Y 20 :: lget Y 21 :: lget Y 22 :: lget Y 23 :: lget Y 24 :: []) H5 Tryz.f34.results.toList = some [.agg [iv f, r]] := by
     show (match loadA Tryz.prog 74 H0.next 0 H5, (some [] : Option (List AV)) with | some x, some m => some (x :: m) | _, _ => none) = _
     rw [load2 g5]
   unfold leaveM resultsA
   simp only [takeMarks]
   rw [show (ENV O).P = Tryz.prog from rfl, hres]
 have hi' : i < ms.length := by have h : (i : Int) < (ms.length : Nat) := of_decide_eq_true h; omega
 clear h
 obtain ⟨p, hp⟩ : ∃ p, ms[i]? = some p := ⟨ms[i], List.getElem?_eq_getElem hi'⟩
 have r4 : H4.next < 2 ^ 59 := by omega
 have hq1 : At H4 (.ptr H1.next 1) r := at_ptr r1 g4 rfl
 have s1 : sameBlk (H4.get H1.next) (H4.get H1.next) = true := by rw [g4]; simp [sameBlk, beqs, hrb, AV.beq, vbeq, iv]
 have s0 : sameBlk (H4.get H.next) (H4.get H.next) = true := by rw [b4.g]; simp [sameBlk, beqs, AV.beq, vbeq, iv]
 have sx : sameBlk (H4.get xb) (H4.get xb) = true := by rw [gx4]; simp [sameBlk, beqs_fl2]
 have htk := take_snocP hp
 repeat (first | apply qN | refine qT rfl ?_ | apply qS | apply qK | apply qB)
 refine wp_drawY (fun j b => (b = H1.next ∧ j = 1) ∨ b = H.next ∨ b = xb) rfl ?_
 refine y_field rfl rfl rfl rfl ?_
 refine y_load rfl rfl rfl hq1 (fun b hb => by cases hb; exact .inl ⟨rfl, rfl⟩) ?_
 refine y_field rfl rfl rfl rfl ?_
 refine y_load rfl rfl rfl hp1 (fun b hb => by cases hb; exact .inr (.inl rfl)) ?_
 refine y_move rfl rfl rfl ?_
 refine y_index2 rfl rfl rfl hx4 rfl hp fun b gr hb39 hbg hbo => ?_
 refine y_loadA (r := [iv p.1, iv p.2]) rfl rfl rfl rfl hb39 hbg (by rw [Nat.zero_add]; exact fl2_get hp) (by rw [fl2_len]; omega) (by cases hbo; exact .inr (.inr rfl)) ?_
 refine y_build1S rfl rfl rfl rfl r4 ?_
 refine WY.mem (fun H5 => Keeps H4 H5 ∧ H5.next = H4.next + 1 ∧ H5.get H4.next = some (.cells [iv p.1, iv p.2] 144 0)) ⟨(Keeps.refl H4).add _ r4, rfl, ?_⟩ ?_
 · exact get_add_eq r4
 rintro H5 ⟨k5, n5, g5⟩
 have r5 : H5.next < 2 ^ 59 := by omega
 refine y_loud rfl rfl (o_append2 (p := p) (ms := ms.take i) rfl rfl rfl rfl rfl (by rw [List.length_take]; omega) r5 rfl g5 (hG.keep k5) fun r8 H8 n8 gl8 f8 hr8 hG8 => ⟨fun j b hb => ?_, ?_⟩)
 · right
   have hlt : b < H2.next := by rcases hb with ⟨rfl, _⟩ | rfl | rfl <;> omega
   rw [f8 b (by omega) (fun e => by have := hown b e; omega), k5.get b (by omega)]
   rcases hb with ⟨rfl, _⟩ | rfl | rfl
   · exact s1
   · exact s0
   · exact sx
 subst hr8
 refine y_field rfl rfl rfl rfl ?_
 have f81 : H8.get H1.next = H4.get H1.next := (f8 H1.next (by omega) (fun e => by have := hown _ e; omega)).trans (k5.get _ (by omega))
 have f80 : H8.get H.next = H4.get H.next := (f8 H.next (by omega) (fun e => by have := hown _ e; omega)).trans (k5.get _ (by omega))
 have f8x : H8.get xb = H4.get xb := (f8 xb (by omega) (fun e => by have := hown _ e; omega)).trans (k5.get _ (by omega))
 have f8a : H8.get H0.next = H4.get H0.next := (f8 H0.next (by omega) (fun e => by have := hown _ e; omega)).trans (k5.get _ (by omega))
 refine y_loud rfl rfl (o_store rfl rfl rfl (f81.trans g4) (by simp) rfl ⟨fun j b hb => ?_, ?_⟩)
 · rcases hb with ⟨rfl, rfl⟩ | rfl | rfl
   · exact .inl (by kernel_rfl)
   · right; rw [get_set_ne r1 (by omega), f80]; exact s0
   · right; rw [get_set_ne r1 (by omega), f8x]; exact sx
 refine y_nil ?_
 have k48 : Keeps H H8 := ⟨by have := k4.nx; omega, gl8.trans (k4.trans k5).gl, fun d hd => (f8 d (by have := k4.nx; omega) (fun e => by have := hown d e; omega)).trans ((k4.trans k5).get d hd)⟩
 rw [← htk] at hG8
 refine Wp.mem (fun H9 => Keeps H H9 ∧ H9.next = H8.next ∧ H9.get H0.next = some (.cells [iv 0, .v (.slice none 0 0)] 74 0) ∧ H9.get H1.next = some (.cells [iv f, .slu H5.next 0 ((ms.take i).length + 1) 2] 74 0) ∧ Bk H9 H.next 67 [iv f, .slc xb 0 ms.length ms.length] ∧ G2 H9 144 (.slu H5.next 0 ((ms.take i).length + 1) 2) (ms.take (i + 1))) ⟨k48.set _ (by omega) r1, rfl, by rw [get_set_ne r1 (by omega), f8a]; exact g4a, get_set_eq r1, ⟨r0, by rw [get_set_ne r1 (by omega), f80]; exact b4.g⟩, ?_⟩ ?_
 · rcases hG8 with ⟨h, _⟩ | ⟨d, h1, h2, h3, h4⟩
   · cases h
   · refine .inr ⟨d, h1, h2, h3, ?_⟩
     have hd : H5.next = d := by
       have := congrArg AV.own h3
       simpa [AV.own] using this
     subst hd
     rw [get_set_ne r1 (by omega)]; exact h4
 rintro H9 ⟨k9, n9, g9a, g9, b9, hG9⟩
 repeat (first | apply qN | refine qM rfl rfl ?_ | refine zq4 rfl rfl rfl rfl (inc (by omega)) ?_ | apply qR)
 exact ⟨ms.length - (i + 1), by omega, i + 1, _, [_,_,_,_,_,_,_,_,_,_,_,_,_,_,_,_,_,_,_,_,_,_], rfl, by omega, k9, by omega, by omega, g9a, g9, b9, hG9, (fun d hd => by cases hd; omega), rfl, by simp [AV.beq], rfl, rfl⟩
theorem c33 (H : AH) (f : Int) (r1 r2 : AV) (ms : List (Int × Int)) (h1 : G2 H 144 r1 ms) (h2 : G2 H 144 r2 ms) (hml : ms.length ≤ 1000) (hr : H.next + 20 < 2 ^ 59) (K : AV → AH → Prop) (hk : ∀ H', Keeps H H' → H'.next = H.next + 2 → K (.v (.bool true)) H') : Ca (ENV O) 33 [.agg [iv f, r1], .agg [iv f, r2]] H K := by
 refine ca_intro (hq _ _ _ rfl) (fn := Tryz.f33) (by rfl) rfl ?_
 have r0 : H.next < 2 ^ 59 := by omega
 repeat (first | apply qR | apply qS)
 refine wops_cons (o_boxS (cs := [iv f, r1]) rfl rfl rfl r0 fun H1 n1 k1 b1 => ?_)
 have ra : H1.next < 2 ^ 59 := by omega
 refine wops_cons (o_boxS (cs := [iv f, r2]) rfl rfl rfl ra fun H2 n2 k2 b2 => ?_)
 have k02 := k1.trans k2
 have b1 := b1.keep (by omega) k2
 have p10 : At H2 (.ptr H.next 0) (iv f) := b1.at rfl
 have p11 : At H2 (.ptr H.next 1) r1 := b1.at rfl
 have p20 : At H2 (.ptr H1.next 0) (iv f) := b2.at rfl
 have p21 : At H2 (.ptr H1.next 1) r2 := b2.at rfl
 have h1 := h1.keep k02
 have h2 := h2.keep k02
 repeat (first | apply qN | refine qM rfl rfl ?_ | refine zqa rfl rfl rfl ?_ | refine zq6 rfl rfl ‹_› ?_ | apply qR | apply qS)
 refine wops_cons (wop_bin (op := .neq) (v := .bool false) rfl rfl rfl rfl (by simp [binI]) ?_)
 repeat (first | refine qM rfl rfl ?_ | refine zqa rfl rfl rfl ?_ | refine zq6 rfl rfl ‹_› ?_)
 refine wops_cons (o_len2 rfl rfl rfl rfl rfl h1.s2 ?_)
 repeat (first | refine zqa rfl rfl rfl ?_ | refine zq6 rfl rfl ‹_› ?_)
 refine wops_cons (o_len2 rfl rfl rfl rfl rfl h2.s2 ?_)
 refine wops_cons (wop_bin (op := .neq) (v := .bool false) rfl rfl rfl rfl (by generalize (ms.length : Int) = a; simp [binI]) ?_)
 repeat (first | apply qN | refine qM rfl rfl ?_ | refine zq7 rfl rfl rfl ?_ | refine qF rfl ?_ | apply qR | apply qS | apply qK | apply qB)
 refine wp_loop (fun q T M H' => ∃ (i : Nat) (Y : List AV), q = ms.length - i ∧ i ≤ ms.length ∧ H' = H2 ∧ M = [] ∧ T = (lget Y 0 :: lget Y 1 :: .ptr H.next 0 :: .ptr H1.next 0 :: lget Y 2 :: iv (i : Nat) :: lget Y 3 :: lget Y 4 :: lget Y 5 :: lget Y 6 :: lget Y 7 :: lget Y 8 :: lget Y 9 :: lget Y 10 :: lget Y 11 :: lget Y 12 :: lget Y 13 :: lget Y 14 :: lget Y 15 :: lget Y 16 :: lget Y 17 :: lget Y 18 :: lget Y 19 :: lget Y 20 :: lget Y 21 :: lget Y 22 :: lget Y 23 :: lget Y 24 :: lget Y 25 :: lget Y 26 :: lget Y 27 :: lget Y 28 :: lget Y 29 :: lget Y 30 :: lget Y 31 :: lget Y 32 :: lget Y 33 :: lget Y 34 :: [])) ms.length
   ⟨0, [_,_,_,_,_,_,_,_,_,_,_,_,_,_,_,_,_,_,_,_,_,_,_,_,_,_,_,_,_,_,_,_,_,_,_], rfl, Nat.zero_le _, rfl, rfl, rfl⟩ ?_
 rintro q T M H4 ⟨i, Y, hq4, hi, rfl, rfl, rfl⟩
 repeat (first | refine qM rfl rfl ?_ | refine zqa rfl rfl rfl ?_ | refine zq6 rfl rfl ‹_› ?_ | apply qR | apply qS)
 refine wops_cons (o_len2 rfl rfl rfl rfl rfl h1.s2 ?_)
 refine wops_cons (wop_cmp rfl rfl rfl rfl rfl (fun h => ?_) (fun h => ?_))
 rotate_left
 · repeat (first | apply qN | refine qM rfl rfl ?_ | refine qF rfl ?_ | apply qR | apply qS | apply qE)
   refine wp_ret ?_
   exact ⟨_, _, rfl, hk H4 k02 (by omega)⟩
 have hi' : i < ms.length := by have h : (i : Int) < (ms.length : Nat) := of_decide_eq_true h; omega
 clear h
 obtain ⟨p, hp⟩ : ∃ p, ms[i]? = some p := ⟨ms[i], List.getElem?_eq_getElem hi'⟩
 repeat (first | apply qN | refine qT rfl ?_ | apply qS | apply qK | apply qB)
 refine wp_drawY (fun j b => True) rfl ?_
 refine y_field rfl rfl rfl rfl ?_
 refine y_load rfl rfl rfl p11 (fun b hb => trivial) ?_
 refine y_move rfl rfl rfl ?_
 refine y_index2 rfl rfl rfl h1.s2 rfl hp fun b gr hb39 hbg hbo => ?_
 refine y_loadA (r := [iv p.1, iv p.2]) rfl rfl rfl rfl hb39 hbg (by rw [Nat.zero_add]; exact fl2_get hp) (by rw [fl2_len]; omega) trivial ?_
 refine y_field rfl rfl rfl rfl ?_
 refine y_load rfl rfl rfl p21 (fun b hb => trivial) ?_
 refine y_move rfl rfl rfl ?_
 refine y_index2 rfl rfl rfl h2.s2 rfl hp fun b gr hb39 hbg hbo => ?_
 refine y_loadA (r := [iv p.1, iv p.2]) rfl rfl rfl rfl hb39 hbg (by rw [Nat.zero_add]; exact fl2_get hp) (by rw [fl2_len]; omega) trivial ?_
 refine y_neqS rfl rfl rfl rfl rfl ?_
 rw [show (!(p.1 == p.1 && p.2 == p.2)) = false by simp]
 refine y_nil ?_
 repeat (first | apply qN | refine qM rfl rfl ?_ | refine zq4 rfl rfl rfl rfl (inc (by omega)) ?_ | refine qF rfl ?_ | apply qR | apply qK)
 exact ⟨ms.length - (i + 1), by omega, i + 1, [_,_,_,_,_,_,_,_,_,_,_,_,_,_,_,_,_,_,_,_,_,_,_,_,_,_,_,_,_,_,_,_,_,_,_], rfl, by omega, rfl, rfl, rfl⟩
theorem c5l (H : AH) (hA : ∀ H', H'.gl = H.gl → O 10 [] H' = some (.v (.bool true), H')) (f l R : Int) (hr : H.next ≤ 1000) (K : AV → AH → Prop) (hk : ∀ H', K (.v (.bool true)) H') : Ca (ENV O) 5 [iv f, iv l, iv R] H K := by
 refine ca_intro (hq _ _ _ rfl) (fn := Tryz.f5) (by rfl) rfl ?_
 repeat (first | apply qN | refine qM rfl rfl ?_ | apply qR | apply qS)
 refine wops_cons (wop_callF rfl rfl rfl (fn := Tryz.f10) (by rfl) ?_)
 refine ca_oracle (hA _ rfl) ⟨Nat.le_refl _, ?_⟩
 repeat (first | apply qN | refine qM rfl rfl ?_ | refine zq8 rfl rfl rfl ?_ | refine qF rfl ?_ | apply qR | apply qS | apply qK)
 refine WOps.mono (K := fun T' H' => (csE f l R ≠ 0 ∧ Keeps H H' ∧ H'.next ≤ H.next + 100000 ∧ ∃ (b : Nat) (Y : List AV), b < H'.next ∧ Bk H' b 67 [iv 0, .v (.slice none 0 0)] ∧ T' = (iv f :: iv l :: iv R :: lget Y 0 :: lget Y 1 :: lget Y 2 :: lget Y 3 :: .ptr b 0 :: iv (csE f l R) :: lget Y 4 :: lget Y 5 :: lget Y 6 :: lget Y 7 :: lget Y 8 :: lget Y 9 :: lget Y 10 :: lget Y 11 :: lget Y 12 :: lget Y 13 :: lget Y 14 :: lget Y 15 :: lget Y 16 :: lget Y 17 :: lget Y 18 :: lget Y 19 :: lget Y 20 :: lget Y 21 :: lget Y 22 :: lget Y 23 :: lget Y 24 :: lget Y 25 :: lget Y 26 :: lget Y 27 :: lget Y 28 :: lget Y 29 :: lget Y 30 :: lget Y 31 :: lget Y 32 :: lget Y 33 :: lget Y 34 :: lget Y 35 :: lget Y 36 :: lget Y 37 :: lget Y 38 :: lget Y 39 :: lget Y 40 :: lget Y 41 :: lget Y 42 :: lget Y 43 :: lget Y 44 :: [])) ∨
   (csE f l R = 0 ∧ ∃ a b c d m : Nat, f = (a : Int) ∧ l = (b : Int) ∧ R = (c : Int) ∧ 1 ≤ a ∧ a ≤ 500 ∧ 1 ≤ b ∧ b ≤ 500 ∧ 1 ≤ c ∧ c ≤ 64 ∧ Keeps H H' ∧ H'.next ≤ H.next + 100000 ∧ m < H'.next ∧ Bk H' m 67 [iv (a : Nat), .slc d 0 c c] ∧ d < H'.next ∧ H'.get d = some (.cells (fl2 (evL a b c)) 120 0) ∧ ∃ (Y : List AV), T' = (iv f :: iv l :: iv R :: lget Y 0 :: lget Y 1 :: lget Y 2 :: lget Y 3 :: .ptr m 0 :: iv 0 :: lget Y 4 :: lget Y 5 :: lget Y 6 :: lget Y 7 :: lget Y 8 :: lget Y 9 :: lget Y 10 :: lget Y 11 :: lget Y 12 :: lget Y 13 :: lget Y 14 :: lget Y 15 :: lget Y 16 :: lget Y 17 :: lget Y 18 :: lget Y 19 :: lget Y 20 :: lget Y 21 :: lget Y 22 :: lget Y 23 :: lget Y 24 :: lget Y 25 :: lget Y 26 :: lget Y 27 :: lget Y 28 :: lget Y 29 :: lget Y 30 :: lget Y 31 :: lget Y 32 :: lget Y 33 :: lget Y 34 :: lget Y 35 :: lget Y 36 :: lget Y 37 :: lget Y 38 :: lget Y 39 :: lget Y 40 :: lget Y 41 :: lget Y 42 :: lget Y 43 :: lget Y 44 :: []))) ?_ ?_
 · refine wops_cons (wop_callF rfl rfl rfl (fn := Tryz.f31) (by rfl) ?_)
   refine c31 hq H f l R (by omega) _ (fun h0 H1 k1 n1 => ⟨k1.nx, ?_⟩) (fun a b c ef el eR ha1 ha2 hb1 hb2 hc1 hc2 => ⟨fun hz H1 k1 n1 => ⟨k1.nx, ?_⟩, fun hz H1 d k1 n1 hd1 hd2 gd => ⟨k1.nx, ?_⟩⟩)
   · have e : csE f l R = shE f l R := by unfold csE; rw [if_neg h0, (shE_3 h0).1]
     rw [← e] at h0 ⊢
     have r1 : H1.next < 2 ^ 59 := by omega
     repeat (first | refine qM rfl rfl ?_ | refine zq9 rfl rfl rfl rfl ?_)
     refine wops_cons (o_allocA (zs := [iv 0, .v (.slice none 0 0)]) rfl rfl (z := .agg #[.int .i64 0, .slice none 0 0]) (by kernel_rfl) rfl r1 ?_)
     refine wops_cons (o_storeA (n := 2) (vs := [iv 0, .v (.slice none 0 0)]) rfl rfl (by kernel_rfl) rfl rfl rfl rfl (get_add_eq r1) (Nat.le_refl _) ?_)
     repeat (first | apply qN | refine qM rfl rfl ?_)
     exact .inl ⟨h0, (k1.add _ r1).set _ k1.nx r1, by show H1.next + 1 ≤ _; omega, H1.next, [_,_,_,_,_,_,_,_,_,_,_,_,_,_,_,_,_,_,_,_,_,_,_,_,_,_,_,_,_,_,_,_,_,_,_,_,_,_,_,_,_,_,_,_,_], Nat.lt_succ_self _, ⟨r1, get_set_eq r1⟩, rfl⟩
   · subst ef el eR
     have h0 : shE (a : Int) (b : Int) (c : Int) = 0 := by
       unfold shE
       rw [inB_iff.2 (show (1 : Int) ≤ a ∧ (a : Int) ≤ 500 by omega), inB_iff.2 (show (1 : Int) ≤ b ∧ (b : Int) ≤ 500 by omega), inB_iff.2 (show (1 : Int) ≤ c ∧ (c : Int) ≤ 64 by omega)]
       rfl
     have e : csE (a : Int) (b : Int) (c : Int) = mshE a (evL a b c) := by unfold csE; rw [if_pos h0]; rfl
     rw [← e] at hz ⊢
     have r1 : H1.next < 2 ^ 59 := by omega
     repeat (first | refine qM rfl rfl ?_ | refine zq9 rfl rfl rfl rfl ?_)
     refine wops_cons (o_allocA (zs := [iv 0, .v (.slice none 0 0)]) rfl rfl (z := .agg #[.int .i64 0, .slice none 0 0]) (by kernel_rfl) rfl r1 ?_)
     refine wops_cons (o_storeA (n := 2) (vs := [iv 0, .v (.slice none 0 0)]) rfl rfl (by kernel_rfl) rfl rfl rfl rfl (get_add_eq r1) (Nat.le_refl _) ?_)
     repeat (first | apply qN | refine qM rfl rfl ?_)
     exact .inl ⟨hz, (k1.add _ r1).set _ k1.nx r1, by show H1.next + 1 ≤ _; omega, H1.next, [_,_,_,_,_,_,_,_,_,_,_,_,_,_,_,_,_,_,_,_,_,_,_,_,_,_,_,_,_,_,_,_,_,_,_,_,_,_,_,_,_,_,_,_,_], Nat.lt_succ_self _, ⟨r1, get_set_eq r1⟩, rfl⟩
   · subst ef el eR
     have h0 : shE (a : Int) (b : Int) (c : Int) = 0 := by
       unfold shE
       rw [inB_iff.2 (show (1 : Int) ≤ a ∧ (a : Int) ≤ 500 by omega), inB_iff.2 (show (1 : Int) ≤ b ∧ (b : Int) ≤ 500 by omega), inB_iff.2 (show (1 : Int) ≤ c ∧ (c : Int) ≤ 64 by omega)]
       rfl
     have e : csE (a : Int) (b : Int) (c : Int) = 0 := by unfold csE; rw [if_pos h0]; exact hz
     have r1 : H1.next < 2 ^ 59 := by omega
     repeat (first | refine qM rfl rfl ?_ | refine zq9 rfl rfl rfl rfl ?_)
     refine wops_cons (o_allocA (zs := [iv 0, .v (.slice none 0 0)]) rfl rfl (z := .agg #[.int .i64 0, .slice none 0 0]) (by kernel_rfl) rfl r1 ?_)
     refine wops_cons (o_storeA (n := 2) (vs := [iv (a : Nat), .slc d 0 c c]) rfl rfl (by kernel_rfl) rfl rfl rfl rfl (get_add_eq r1) (Nat.le_refl _) ?_)
     repeat (first | apply qN | refine qM rfl rfl ?_)
     exact .inr ⟨e, a, b, c, d, H1.next, rfl, rfl, rfl, ha1, ha2, hb1, hb2, hc1, hc2, (k1.add _ r1).set _ k1.nx r1, by show H1.next + 1 ≤ _; omega, Nat.lt_succ_self _, ⟨r1, get_set_eq r1⟩, by show d < H1.next + 1; omega, by rw [get_set_ne r1 (by omega), get_add_ne r1 (by omega)]; exact gd, [_,_,_,_,_,_,_,_,_,_,_,_,_,_,_,_,_,_,_,_,_,_,_,_,_,_,_,_,_,_,_,_,_,_,_,_,_,_,_,_,_,_,_,_,_], rfl⟩
 rintro T' H1 (⟨h0, k1, n1, b, Y, hb, b1, rfl⟩ | ⟨h0, a, b, c, d, m, rfl, rfl, rfl, ha1, ha2, hb1, hb2, hc1, hc2, k1, n1, hm, b1, hd, gd, Y, rfl⟩)
 · show Wp _ _ _ _ _ _ _ _
   repeat (first | refine qM rfl rfl ?_ | apply qR | apply qS)
   refine wops_cons (wop_callF rfl rfl rfl (fn := Tryz.f32) (by rfl) ?_)
   refine c32 hq H1 f l R (by omega) _ fun H2 k2 n2 => ⟨k2.nx, ?_⟩
   have b2 := b1.keep hb k2
   have p0 : At H2 (.ptr b 0) (iv 0) := b2.at rfl
   have p1 : At H2 (.ptr b 1) (.v (.slice none 0 0)) := b2.at rfl
   generalize csE f l R = w at h0 ⊢
   repeat (first | apply qN | refine qM rfl rfl ?_ | apply qR | apply qS)
   refine wops_cons (wop_bin (op := .neq) (v := .bool true) rfl rfl rfl rfl (by simp [binI, h0]) ?_)
   repeat (first | apply qN | refine zqa rfl rfl rfl ?_ | refine zq6 rfl rfl ‹_› ?_ | refine qT rfl ?_ | apply qR | apply qS)
   refine wops_cons (wop_bin (op := .eql) (v := .bool true) rfl rfl rfl rfl rfl ?_)
   repeat (first | refine qM rfl rfl ?_ | refine zqa rfl rfl rfl ?_ | refine zq6 rfl rfl ‹_› ?_)
   refine wops_cons (o_len2 (ms := []) (t' := 120) rfl rfl rfl rfl rfl (.inl ⟨rfl, rfl⟩) ?_)
   refine wops_cons (wop_bin (op := .eql) (v := .bool true) rfl rfl rfl rfl rfl ?_)
   repeat (first | refine qM rfl rfl ?_ | refine zq7 rfl rfl rfl ?_)
   refine wops_cons (wop_bin (op := .eql) (v := .bool true) rfl rfl rfl rfl (by simp [binI]) ?_)
   repeat (first | apply qN | refine qM rfl rfl ?_ | refine zq7 rfl rfl rfl ?_)
   refine wp_ret ?_
   exact ⟨_, _, rfl, hk _⟩
 · show Wp _ _ _ _ _ _ _ _
   repeat (first | refine qM rfl rfl ?_ | apply qR | apply qS)
   refine wops_cons (wop_callF rfl rfl rfl (fn := Tryz.f32) (by rfl) ?_)
   refine c32 hq H1 a b c (by omega) _ fun H2 k2 n2 => ⟨k2.nx, ?_⟩
   have b2 := b1.keep hm k2
   have gd2 := (k2.get d hd).trans gd
   rw [h0]
   repeat (first | apply qN | refine qM rfl rfl ?_ | apply qR | apply qS)
   refine wops_cons (wop_bin (op := .neq) (v := .bool false) rfl rfl rfl rfl rfl ?_)
   repeat (first | apply qN | refine qM rfl rfl ?_ | refine qF rfl ?_ | apply qR | apply qS | apply qK)
   refine wops_cons (wop_bin (op := .eql) (v := .bool true) rfl rfl rfl rfl rfl ?_)
   repeat (first | refine qM rfl rfl ?_ | refine zqb rfl rfl rfl ‹_› ?_)
   refine wops_cons (wop_callF rfl rfl rfl (fn := Tryz.f34) (by rfl) ?_)
   have hcl := evL_len a b c
   have hc34 := c34 hq H2 (a : Nat) d (evL a b c) (by have := k2.nx; omega) gd2 (by omega) (by omega)
   rw [hcl] at hc34
   refine hc34 _ fun H3 r k3 n3 hG3 hown => ⟨k3.nx, ?_⟩
   repeat (first | refine qM rfl rfl ?_)
   refine wops_cons (wop_callF rfl rfl rfl (fn := Tryz.f35) (by rfl) ?_)
   refine c35 hq H3 a b c ha2 hb2 (by omega) hc2 (by omega) _ fun H4 r2 k4 n4 hG4 hown2 => ⟨k4.nx, ?_⟩
   refine wops_cons (wop_callF rfl rfl rfl (fn := Tryz.f33) (by rfl) ?_)
   refine c33 hq H4 (a : Nat) r r2 (evL a b c) (hG3.keep k4) hG4 (by omega) (by omega) _ fun H5 k5 n5 => ⟨k5.nx, ?_⟩
   repeat (first | apply qN | refine qM rfl rfl ?_ | refine zq7 rfl rfl rfl ?_)
   refine wp_ret ?_
   exact ⟨_, _, rfl, hk _⟩
end Go.Ev
