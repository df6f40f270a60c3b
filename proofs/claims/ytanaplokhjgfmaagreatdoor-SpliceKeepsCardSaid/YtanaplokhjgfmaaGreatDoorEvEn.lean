/- Part of an evaluator of calls that is proved sound, and of what it gives about this program. No condition of its own. -/
import Derived.Test.YtanaplokhjgfmaaGreatDoorEvEk
import Derived.Test.YtanaplokhjgfmaaGreatDoorEvDe
set_option linter.unusedVariables false
set_option linter.unusedSimpArgs false
set_option linter.unusedSectionVars false
set_option maxRecDepth 100000
set_option maxHeartbeats 4000000
namespace Go.Ev
open Go.Proofs
section
variable {O : CallF} {T : List AV} {H H0 : AH} {ops : Array Oper} {o : Oper} {i : Nat} {π : List Stp} {B : Nat → Nat → Prop}
theorem y_make {K : List AV → AH → Prop} {t e : TypeId} {l c : Operand} {n : Nat} {z0 : Value} (h1 : ops.toList[i]? = some o) (ho : o.op = .makeSlice t l c) (hg : wantedA o ops T = true) (hl : av T l = iv n) (hc : av T c = iv n) [hu : TyS t e] [hs : Cell e] [hz : Zero e z0] (hn : n ≤ 2 ^ 32) (hr : H.next < 2 ^ 59)
   (hk : WY (ENV O) ops H0 B π (putA T o.dst (.slc H.next 0 n n)) (H.add (.cells (List.replicate n (.v z0)) e 0)) K) : WY (ENV O) ops H0 B (.alc i :: π) T H K := by
 obtain ⟨o', h1', hh⟩ := d_make (K := fun T' H' => T' = putA T o.dst (.slc H.next 0 n n) ∧ H' = H.add (.cells (List.replicate n (.v z0)) e 0)) (π := []) (H0 := H0) h1 ho hl hc hn hr ⟨rfl, rfl⟩ hg
 rw [h1] at h1'; cases h1'
 rcases hh with ⟨hw, _⟩ | ⟨hw, kk, cs, tt, H1, h2, h3, h4⟩
 · rw [hg] at hw; cases hw
 · obtain ⟨h4a, h4b⟩ := h4
   refine ⟨o, h1, .inr ⟨hw, kk, cs, tt, H1, h2, h3, ?_⟩⟩
   rw [h4a, h4b]; exact hk
theorem y_build1 {K : List AV → AH → Prop} {t e : TypeId} {x : Operand} {z0 : Value} (h1 : ops.toList[i]? = some o) (ho : o.op = .buildSlice t 1 #[(0, x)]) (hg : wantedA o ops T = true) [hu : TyS t e] [hs : Cell e] [hz : Zero e z0] (hx : (av T x).one = true) (hr : H.next < 2 ^ 59)
   (hk : WY (ENV O) ops H0 B π (putA T o.dst (.slc H.next 0 1 1)) (H.add (.cells [av T x] e 0)) K) : WY (ENV O) ops H0 B (.alc i :: π) T H K := by
 have hlt : Nat.blt H.next (2 ^ 59) = true := Nat.ble_eq_true_of_le hr
 refine ⟨o, h1, .inr ⟨hg, some (1, 1), [av T x], e, H.add (.cells [av T x] e 0), ?_, ?_, hk⟩⟩
 · unfold laysA; rw [ho]
   simp only [ENV, hu.u, hs.s, hz.z, hz.c]
   rw [if_pos (by decide)]
   simp [fillA, cells_one hx, wr]
 · simp only [newA, hlt, if_true]
end
def Mad (H : AH) (b : Nat) (l : List Int) : Prop := b < H.next ∧ b < 2 ^ 59 ∧ H.get b = some (.cells (ivs l) 3 0)
theorem Mad.ky {H : AH} {b n : Nat} {l : List Int} (h : Mad H b l) (hn : l.length = n) : Ky H (.slc b 0 n n) l := by
 obtain ⟨h1, h2, h3⟩ := h
 subst hn
 refine ⟨⟨(ivs_length l).symm, h2, _, _, _, h3, fun j v hv => by rw [Nat.zero_add]; exact hv⟩, fun d hd => by cases hd; exact h1, Nat.le_refl _, fun d hd => ?_⟩
 cases hd
 exact ⟨h1, by rw [h3]; simp [sameBlk, beqs_ivs]⟩
theorem Mad.keep {H H' : AH} {b : Nat} {l : List Int} (h : Mad H b l) (k : Keeps H H') : Mad H' b l := ⟨Nat.lt_of_lt_of_le h.1 k.nx, h.2.1, (k.get b h.1).trans h.2.2⟩
variable {O : CallF} (hq : Quiet O)
include hq
theorem c66 (H : AH) (r : Ru) (n : Nat) (rv : AV) (hrv : rv.cells = r.cs) (hn : r.s = (n : Int)) (hn8 : n ≤ 8) (hr : H.next + 40 < 2 ^ 59) (K : AV → AH → Prop) (hk : ∀ H' b c, Keeps H H' → H'.next ≤ H.next + 10 → Mad H' b (List.replicate n 0) → Mad H' c (nums n) → H.next ≤ b → H.next ≤ c → K (.agg [.slc b 0 n n, .slc c 0 n n]) H') : Ca (ENV O) 66 [rv] H K := by
 refine ca_intro (hq _ _ _ rfl) (fn := Tryz.f66) (by rfl) rfl ?_
 have r0 : H.next < 2 ^ 59 := by omega
 repeat (first | apply qR | apply qS)
 refine wops_cons (o_boxS (cs := r.cs) rfl rfl hrv r0 fun H1 n1 k1 b1 => ?_)
 have r1 : H1.next < 2 ^ 59 := by omega
 have x1 := k1.nx
 refine wops_cons (o_allocA (zs := [.v (.slice none 0 0), .v (.slice none 0 0)]) rfl rfl (z := .agg #[.slice none 0 0, .slice none 0 0]) (by kernel_rfl) rfl r1 ?_)
 refine WOps.mem (fun H2 => Keeps H1 H2 ∧ H2.next = H1.next + 1 ∧ H2.get H1.next = some (.cells [.v (.slice none 0 0), .v (.slice none 0 0)] 26 0)) ⟨(Keeps.refl H1).add _ r1, rfl, get_add_eq r1⟩ ?_
 rintro H2 ⟨k2, n2, g2⟩
 have b12 := b1.keep (by omega) k2
 have k02 := k1.trans k2
 have x2 := k2.nx
 have p0 : At H2 (.ptr H.next 0) (iv (n : Nat)) := by rw [← hn]; exact b12.at rfl
 have sm : sameBlk (H2.get H.next) (H2.get H.next) = true := by rw [b12.g]; simp [sameBlk, ru_beq]
 show WOps _ _ _ _ _ _
 repeat (first | apply qN | apply qS)
 refine wp_drawY (fun _ b => b = H.next) rfl ?_
 refine y_field rfl rfl rfl rfl ?_
 refine y_load rfl rfl rfl p0 (fun b hb => by cases hb; rfl) ?_
 refine y_field rfl rfl rfl rfl ?_
 refine y_load rfl rfl rfl p0 (fun b hb => by cases hb; rfl) ?_
 refine y_call rfl rfl rfl (fun b h => by cases h) (wop_callF rfl rfl rfl (fn := Tryz.f86) (by rfl) ?_)
 refine cNumbers hq H2 n (by omega) (by omega) _ fun H3 k3 n3 g3 => ⟨k3.nx, fun _ b hb => .inr (by subst hb; rw [k3.get _ (by omega)]; exact sm), ?_⟩
 have x3 := k3.nx
 have r3 : H3.next < 2 ^ 59 := by omega
 refine y_make (n := n) rfl rfl rfl rfl rfl (by omega) r3 ?_
 refine WY.mem (fun H4 => Keeps H3 H4 ∧ H4.next = H3.next + 1 ∧ H4.get H3.next = some (.cells (ivs (List.replicate n 0)) 3 0)) ⟨(Keeps.refl H3).add _ r3, rfl, ?_⟩ ?_
 · rw [← ivs_rep]; exact get_add_eq r3
 rintro H4 ⟨k4, n4, g4⟩
 have k24 := k3.trans k4
 have g34 := (k4.get _ (by omega)).trans g3
 have g24 := (k24.get _ (by omega)).trans g2
 refine y_buildS (v := .slc H3.next 0 n n) (w := .slc H2.next 0 n n) rfl rfl rfl rfl rfl rfl rfl ?_
 refine y_loud rfl rfl (o_storeA (n := 2) (vs := [.slc H3.next 0 n n, .slc H2.next 0 n n]) rfl rfl (by kernel_rfl) rfl rfl rfl rfl g24 (Nat.le_refl _) ⟨fun _ b hb => .inr (by subst hb; rw [get_set_ne r1 (by omega), k24.get _ (by omega)]; exact sm), ?_⟩)
 refine y_nil ?_
 refine Wp.mem (fun H5 => Keeps H H5 ∧ H5.next = H4.next ∧ H5.get H1.next = some (.cells [.slc H3.next 0 n n, .slc H2.next 0 n n] 26 0) ∧ Mad H5 H3.next (List.replicate n 0) ∧ Mad H5 H2.next (nums n)) ⟨(k02.trans k24).set _ (by omega) r1, rfl, get_set_eq r1, ⟨by show H3.next < H4.next; omega, r3, by rw [get_set_ne r1 (by omega)]; exact g4⟩, ⟨by show H2.next < H4.next; omega, by omega, by rw [get_set_ne r1 (by omega)]; exact g34⟩⟩ ?_
 rintro H5 ⟨k5, n5, g5, hM1, hM2⟩
 skip
 refine Wp.cut (fun T => ∃ Y : List AV, T = (lget Y 0 :: lget Y 1 :: .ptr H1.next 0 :: lget Y 2 :: lget Y 3 :: lget Y 4 :: lget Y 5 :: lget Y 6 :: lget Y 7 :: lget Y 8 :: [])) ⟨[_,_,_,_,_,_,_,_,_], rfl⟩ ?_
 rintro T ⟨Y, rfl⟩
 refine wp_ret ?_
 refine ⟨.agg [.slc H3.next 0 n n, .slc H2.next 0 n n], H5, ?_, hk H5 _ _ k5 (by omega) hM1 hM2 (by omega) (by omega)⟩
 have hres : resA Tryz.prog (lget Y 0 :: lget Y 1 :: .ptr H1.next 0 :: lget Y 2 :: lget Y 3 :: lget Y 4 :: lget Y 5 :: lget Y 6 :: lget Y 7 :: lget Y 8 :: []) H5 Tryz.f66.results.toList = some [.agg [.slc H3.next 0 n n, .slc H2.next 0 n n]] := by
   show (match loadA Tryz.prog 26 H1.next 0 H5, (some [] : Option (List AV)) with | some x, some m => some (x :: m) | _, _ => none) = _
   rw [load2 g5]
 unfold leaveM resultsA
 simp only [takeMarks]
 rw [show (ENV O).P = Tryz.prog from rfl, hres]
theorem c12 (H : AH) (r : Ru) (rv : AV) (hrv : rv.cells = r.cs) (hr : H.next + 100 < 2 ^ 59) (K : AV → AH → Prop)
   (hke : ruE r ≠ 0 → ∀ H', Keeps H H' → H'.next ≤ H.next + 30 → K (.tup [.agg [.v (.slice none 0 0), .v (.slice none 0 0)], iv (ruE r)]) H')
   (hk : ruE r = 0 → ∀ H' b c n, r.s = ((n : Nat) : Int) → Keeps H H' → H'.next ≤ H.next + 30 → Mad H' b (List.replicate n 0) → Mad H' c (nums n) → K (.tup [.agg [.slc b 0 n n, .slc c 0 n n], iv 0]) H') : Ca (ENV O) 12 [rv] H K := by
 refine ca_intro (hq _ _ _ rfl) (fn := Tryz.f12) (by rfl) rfl ?_
 have r0 : H.next < 2 ^ 59 := by omega
 repeat (first | apply qR | apply qS)
 refine wops_cons (o_boxS (cs := r.cs) rfl rfl hrv r0 fun H1 n1 k1 b1 => ?_)
 have r1 : H1.next < 2 ^ 59 := by omega
 have x1 := k1.nx
 refine wops_cons (o_allocA (zs := [.v (.slice none 0 0), .v (.slice none 0 0)]) rfl rfl (z := .agg #[.slice none 0 0, .slice none 0 0]) (by kernel_rfl) rfl r1 ?_)
 refine WOps.mem (fun H2 => Keeps H1 H2 ∧ H2.next = H1.next + 1 ∧ H2.get H1.next = some (.cells [.v (.slice none 0 0), .v (.slice none 0 0)] 26 0)) ⟨(Keeps.refl H1).add _ r1, rfl, get_add_eq r1⟩ ?_
 rintro H2 ⟨k2, n2, g2⟩
 have b12 := b1.keep (by omega) k2
 have k02 := k1.trans k2
 have x2 := k2.nx
 clear b1
 show WOps _ _ _ _ _ _
 repeat (first | apply qN | refine qM rfl rfl ?_ | refine zqb rfl rfl rfl ‹_› ?_ | apply qR | apply qS)
 refine wops_cons (wop_callF rfl rfl rfl (fn := Tryz.f14) (by rfl) ?_)
 refine c14 hq H2 r _ rfl (by omega) _ fun H3 k3 n3 => ⟨k3.nx, ?_⟩
 have b13 := b12.keep (by omega) k3
 have g3 := (k3.get _ (by omega)).trans g2
 have k03 := k02.trans k3
 have x3 := k3.nx
 clear b12
 by_cases h0 : ruE r = 0
 rotate_left
 · have hke := hke h0
   clear hk
   generalize ruE r = w at h0 hke ⊢
   repeat (first | apply qN | refine qM rfl rfl ?_ | apply qR | apply qS)
   refine wops_cons (wop_bin (op := .neq) (v := .bool true) rfl rfl rfl rfl (by simp [binI, h0]) ?_)
   repeat (first | apply qN | refine qT rfl ?_ | apply qR | apply qS)
   refine wops_cons (o_buildS0 rfl rfl ?_)
   repeat (first | refine qM rfl rfl ?_)
   refine wops_cons (o_storeA (n := 2) (vs := [.v (.slice none 0 0), .v (.slice none 0 0)]) rfl rfl (by kernel_rfl) rfl rfl rfl rfl g3 (Nat.le_refl _) ?_)
   refine WOps.mem (fun H4 => Keeps H H4 ∧ H4.next = H3.next ∧ H4.get H1.next = some (.cells [.v (.slice none 0 0), .v (.slice none 0 0)] 26 0)) ⟨k03.set _ (by omega) r1, rfl, get_set_eq r1⟩ ?_
   rintro H4 ⟨k4, n4, g4⟩
   repeat (first | apply qN | refine qM rfl rfl ?_)
   refine Wp.cut (fun T => ∃ Y : List AV, T = (lget Y 0 :: lget Y 1 :: .ptr H1.next 0 :: iv w :: lget Y 2 :: lget Y 3 :: lget Y 4 :: lget Y 5 :: lget Y 6 :: lget Y 7 :: lget Y 8 :: lget Y 9 :: lget Y 10 :: [])) ⟨[_,_,_,_,_,_,_,_,_,_,_], rfl⟩ ?_
   rintro T ⟨Y, rfl⟩
   refine wp_ret ?_
   refine ⟨.tup [.agg [.v (.slice none 0 0), .v (.slice none 0 0)], iv w], H4, ?_, hke H4 k4 (by omega)⟩
   have hres : resA Tryz.prog (lget Y 0 :: lget Y 1 :: .ptr H1.next 0 :: iv w :: lget Y 2 :: lget Y 3 :: lget Y 4 :: lget Y 5 :: lget Y 6 :: lget Y 7 :: lget Y 8 :: lget Y 9 :: lget Y 10 :: []) H4 Tryz.f12.results.toList = some [.agg [.v (.slice none 0 0), .v (.slice none 0 0)], iv w] := by
     show (match loadA Tryz.prog 26 H1.next 0 H4, (some [iv w] : Option (List AV)) with | some x, some m => some (x :: m) | _, _ => none) = _
     rw [load2 g4]
   unfold leaveM resultsA
   simp only [takeMarks]
   rw [show (ENV O).P = Tryz.prog from rfl, hres]
 have hk := hk h0
 clear hke
 have hR := ruE_ok h0
 rw [h0]
 obtain ⟨n, hn⟩ : ∃ n : Nat, r.s = (n : Int) := ⟨r.s.toNat, by omega⟩
 repeat (first | apply qN | refine qM rfl rfl ?_ | apply qR | apply qS)
 refine wops_cons (wop_bin (op := .neq) (v := .bool false) rfl rfl rfl rfl rfl ?_)
 repeat (first | apply qN | refine zqb rfl rfl rfl ‹_› ?_ | refine qF rfl ?_ | apply qR | apply qS | apply qK)
 refine wops_cons (wop_callF rfl rfl rfl (fn := Tryz.f66) (by rfl) ?_)
 refine c66 hq H3 r n _ rfl hn (by omega) (by omega) _ fun H4 b c k4 n4 hM1 hM2 hb hc => ⟨k4.nx, ?_⟩
 have x4 := k4.nx
 have g4 := (k4.get _ (by omega)).trans g3
 have hb1 := hM1.1
 have hb2 := hM2.1
 skip
 refine wops_cons (o_storeA (n := 2) (vs := [.slc b 0 n n, .slc c 0 n n]) rfl rfl (by kernel_rfl) rfl rfl rfl rfl g4 (Nat.le_refl _) ?_)
 refine WOps.mem (fun H5 => Keeps H H5 ∧ H5.next = H4.next ∧ H5.get H1.next = some (.cells [.slc b 0 n n, .slc c 0 n n] 26 0) ∧ Mad H5 b (List.replicate n 0) ∧ Mad H5 c (nums n)) ⟨(k03.trans k4).set _ (by omega) r1, rfl, get_set_eq r1, ⟨hb1, hM1.2.1, by rw [get_set_ne r1 (by omega)]; exact hM1.2.2⟩, ⟨hb2, hM2.2.1, by rw [get_set_ne r1 (by omega)]; exact hM2.2.2⟩⟩ ?_
 rintro H5 ⟨k5, n5, g5, hN1, hN2⟩
 repeat (first | apply qN | refine qM rfl rfl ?_)
 refine Wp.cut (fun T => ∃ Y : List AV, T = (lget Y 0 :: lget Y 1 :: .ptr H1.next 0 :: iv 0 :: lget Y 2 :: lget Y 3 :: lget Y 4 :: lget Y 5 :: lget Y 6 :: lget Y 7 :: lget Y 8 :: lget Y 9 :: lget Y 10 :: [])) ⟨[_,_,_,_,_,_,_,_,_,_,_], rfl⟩ ?_
 rintro T ⟨Y, rfl⟩
 refine wp_ret ?_
 refine ⟨.tup [.agg [.slc b 0 n n, .slc c 0 n n], iv 0], H5, ?_, hk H5 b c n hn k5 (by omega) hN1 hN2⟩
 have hres : resA Tryz.prog (lget Y 0 :: lget Y 1 :: .ptr H1.next 0 :: iv 0 :: lget Y 2 :: lget Y 3 :: lget Y 4 :: lget Y 5 :: lget Y 6 :: lget Y 7 :: lget Y 8 :: lget Y 9 :: lget Y 10 :: []) H5 Tryz.f12.results.toList = some [.agg [.slc b 0 n n, .slc c 0 n n], iv 0] := by
   show (match loadA Tryz.prog 26 H1.next 0 H5, (some [iv 0] : Option (List AV)) with | some x, some m => some (x :: m) | _, _ => none) = _
   rw [load2 g5]
 unfold leaveM resultsA
 simp only [takeMarks]
 rw [show (ENV O).P = Tryz.prog from rfl, hres]
end Go.Ev
namespace Go.Ev
open Go.Proofs
theorem Ap.frame {H H' : AH} {r : AV} {l : List Int} (h : Ap H r l) (hn : H.next ≤ H'.next) (hb : ∀ b, r.own = some b → H'.get b = H.get b) : Ap H' r l := by
 rcases h with h | ⟨b, h0, h1, h2, h3, h4⟩ | ⟨b, h0, h2, h3, h4⟩
 · exact .inl h
 · exact .inr (.inl ⟨b, h0, h1, by omega, h3, (hb b (by rw [h0]; rfl)).trans h4⟩)
 · exact .inr (.inr ⟨b, h0, by omega, h3, (hb b (by rw [h0]; rfl)).trans h4⟩)
theorem Ap.lt {H : AH} {r : AV} {l : List Int} (h : Ap H r l) : ∀ b, r.own = some b → b < H.next := fun b hb => h.ky.old b hb
variable {O : CallF} (hq : Quiet O)
include hq
theorem c16 (H : AH) (r : Ru) (n : Nat) (rv : AV) (hrv : rv.cells = r.cs) (hn : r.s = (n : Int)) (hn8 : n ≤ 8) (hr : H.next + 200 < 2 ^ 59) (K : AV → AH → Prop) (hk : ∀ H' p q, Keeps H H' → H'.next ≤ H.next + 40 → Ky H' p (List.replicate n 0) → Ky H' q (nums n) → K (.agg [p, q]) H') : Ca (ENV O) 16 [rv] H K := by
 refine ca_intro (hq _ _ _ rfl) (fn := Tryz.f16) (by rfl) rfl ?_
 have r0 : H.next < 2 ^ 59 := by omega
 repeat (first | apply qR | apply qS)
 refine wops_cons (o_boxS (cs := r.cs) rfl rfl hrv r0 fun H1 n1 k1 b1 => ?_)
 have r1 : H1.next < 2 ^ 59 := by omega
 have x1 := k1.nx
 refine wops_cons (o_allocA (zs := [.v (.slice none 0 0), .v (.slice none 0 0)]) rfl rfl (z := .agg #[.slice none 0 0, .slice none 0 0]) (by kernel_rfl) rfl r1 ?_)
 refine WOps.mem (fun H2 => Keeps H1 H2 ∧ H2.next = H1.next + 1 ∧ H2.get H1.next = some (.cells [.v (.slice none 0 0), .v (.slice none 0 0)] 30 0)) ⟨(Keeps.refl H1).add _ r1, rfl, get_add_eq r1⟩ ?_
 rintro H2 ⟨k2, n2, g2⟩
 have r2 : H2.next < 2 ^ 59 := by omega
 show WOps _ _ _ _ _ _
 repeat (first | apply qN | apply qR | apply qS)
 refine wops_cons (o_allocA (zs := [.v (.slice none 0 0), .v (.slice none 0 0)]) rfl rfl (z := .agg #[.slice none 0 0, .slice none 0 0]) (by kernel_rfl) rfl r2 ?_)
 refine WOps.mem (fun H3 => Keeps H2 H3 ∧ H3.next = H2.next + 1 ∧ H3.get H2.next = some (.cells [.v (.slice none 0 0), .v (.slice none 0 0)] 30 0)) ⟨(Keeps.refl H2).add _ r2, rfl, get_add_eq r2⟩ ?_
 rintro H3 ⟨k3, n3, g3⟩
 have b13 := b1.keep (by omega) (k2.trans k3)
 have g23 := (k3.get _ (by omega)).trans g2
 have k03 := (k1.trans k2).trans k3
 show WOps _ _ _ _ _ _
 repeat (first | apply qN | refine qM rfl rfl ?_ | apply qR | apply qS | apply qB)
 refine wp_loop (fun k T M H' => ∃ (i : Nat) (p q : AV) (Y : List AV), k = n - i ∧ i ≤ n ∧ Keeps H H' ∧ H3.next ≤ H'.next ∧ H'.next ≤ H3.next + 4 * i ∧ Bk H' H.next 29 r.cs ∧ H'.get H1.next = some (.cells [.v (.slice none 0 0), .v (.slice none 0 0)] 30 0) ∧ Bk H' H2.next 30 [p, q] ∧ Ap H' p (List.replicate i 0) ∧ Ap H' q ((nums n).take i) ∧ (∀ d, p.own = some d → H3.next ≤ d) ∧ (∀ d, q.own = some d → H3.next ≤ d) ∧ (∀ d, p.own = some d → q.own ≠ some d) ∧ M = [] ∧ T = (lget Y 0 :: .ptr H.next 0 :: .ptr H1.next 0 :: .ptr H2.next 0 :: iv (i : Nat) :: lget Y 1 :: lget Y 2 :: lget Y 3 :: lget Y 4 :: lget Y 5 :: lget Y 6 :: lget Y 7 :: lget Y 8 :: lget Y 9 :: lget Y 10 :: lget Y 11 :: lget Y 12 :: lget Y 13 :: lget Y 14 :: lget Y 15 :: lget Y 16 :: lget Y 17 :: lget Y 18 :: [])) n
   ⟨0, .v (.slice none 0 0), .v (.slice none 0 0), [_,_,_,_,_,_,_,_,_,_,_,_,_,_,_,_,_,_,_], rfl, Nat.zero_le _, k03, Nat.le_refl _, Nat.le_refl _, b13, g23, ⟨r2, g3⟩, .inl ⟨rfl, rfl⟩, .inl ⟨rfl, rfl⟩, (fun d hd => by cases hd), (fun d hd => by cases hd), (fun d hd => by cases hd), rfl, rfl⟩ ?_
 rintro k T M H4 ⟨i, p, q, Y, hq4, hi, k4, n4, n4', b4, g4, b24, hP, hQ, hpo, hqo, hpq, rfl, rfl⟩
 have p0 : At H4 (.ptr H.next 0) (iv (n : Nat)) := by rw [← hn]; exact b4.at rfl
 have r4 : H4.next < 2 ^ 59 := by omega
 repeat (first | refine qM rfl rfl ?_ | refine zqa rfl rfl rfl ?_ | refine zq6 rfl rfl ‹_› ?_ | apply qR | apply qS)
 refine wops_cons (wop_cmp rfl rfl rfl rfl rfl (fun h => ?_) (fun h => ?_))
 rotate_left
 · have h : ¬ ((i : Int) < (n : Nat)) := of_decide_eq_false h
   have e : i = n := by omega
   subst e
   rw [List.take_of_length_le (by rw [nums_len]; exact Nat.le_refl _)] at hQ
   repeat (first | apply qN | refine zqb rfl rfl rfl ‹_› ?_ | refine qF rfl ?_ | apply qR | apply qS | apply qE)
   refine wops_cons (o_storeA (n := 2) (vs := [p, q]) rfl rfl (by kernel_rfl) rfl rfl rfl (by simp [hP.ky.sl.one, hQ.ky.sl.one]) g4 (Nat.le_refl _) ?_)
   refine WOps.mem (fun H5 => Keeps H H5 ∧ H5.next = H4.next ∧ H5.get H1.next = some (.cells [p, q] 30 0) ∧ Ap H5 p (List.replicate i 0) ∧ Ap H5 q (nums i)) ⟨k4.set _ (by omega) r1, rfl, get_set_eq r1, hP.frame (Nat.le_refl _) (fun d hd => get_set_ne r1 (by have := hpo d hd; omega)), hQ.frame (Nat.le_refl _) (fun d hd => get_set_ne r1 (by have := hqo d hd; omega))⟩ ?_
   rintro H5 ⟨k5, n5, g5, hP5, hQ5⟩
   repeat (first | apply qN)
   refine Wp.cut (fun T => ∃ Y : List AV, T = (lget Y 0 :: lget Y 1 :: .ptr H1.next 0 :: lget Y 2 :: lget Y 3 :: lget Y 4 :: lget Y 5 :: lget Y 6 :: lget Y 7 :: lget Y 8 :: lget Y 9 :: lget Y 10 :: lget Y 11 :: lget Y 12 :: lget Y 13 :: lget Y 14 :: lget Y 15 :: lget Y 16 :: lget Y 17 :: lget Y 18 :: lget Y 19 :: lget Y 20 :: lget Y 21 :: [])) ⟨[_,_,_,_,_,_,_,_,_,_,_,_,_,_,_,_,_,_,_,_,_,_], rfl⟩ ?_
   rintro T ⟨Y, rfl⟩
   refine wp_ret ?_
   refine ⟨.agg [p, q], H5, ?_, hk H5 p q k5 (by omega) hP5.ky hQ5.ky⟩
   have hres : resA Tryz.prog (lget Y 0 :: lget Y 1 :: .ptr H1.next 0 :: lget Y 2 :: lget Y 3 :: lget Y 4 :: lget Y 5 :: lget Y 6 :: lget Y 7 :: lget Y 8 :: lget Y 9 :: lget Y 10 :: lget Y 11 :: lget Y 12 :: lget Y 13 :: lget Y 14 :: lget Y 15 :: lget Y 16 :: lget Y 17 :: lget Y 18 :: lget Y 19 :: lget Y 20 :: lget Y 21 :: []) H5 Tryz.f16.results.toList = some [.agg [p, q]] := by
     show (match loadA Tryz.prog 30 H1.next 0 H5, (some [] : Option (List AV)) with | some x, some m => some (x :: m) | _, _ => none) = _
     rw [load2 g5]
   unfold leaveM resultsA
   simp only [takeMarks]
   rw [show (ENV O).P = Tryz.prog from rfl, hres]
 have hi' : i < n := by have h : (i : Int) < (n : Nat) := of_decide_eq_true h; omega
 clear h
 have t0 : At H4 (.ptr H2.next 0) p := b24.at rfl
 have t1 : At H4 (.ptr H2.next 1) q := b24.at rfl
 have sm : sameBlk (H4.get H2.next) (H4.get H2.next) = true := by rw [b24.g]; simp [sameBlk, beqs, hP.ky.sl.beq, hQ.ky.sl.beq]
 repeat (first | apply qN | refine qT rfl ?_ | apply qS | apply qK | apply qB)
 refine wp_drawY (fun j b => b = H2.next ∧ (j = 1 ∨ j = 5)) rfl ?_
 refine y_field rfl rfl rfl rfl ?_
 refine y_load rfl rfl rfl t0 (fun b hb => by cases hb; exact ⟨rfl, .inl rfl⟩) ?_
 refine y_field rfl rfl rfl rfl ?_
 refine y_load rfl rfl rfl t1 (fun b hb => by cases hb; exact ⟨rfl, .inr rfl⟩) ?_
 refine y_move rfl rfl rfl ?_
 refine y_build1 rfl rfl rfl rfl r4 ?_
 refine WY.mem (fun H5 => Keeps H4 H5 ∧ H5.next = H4.next + 1 ∧ H5.get H4.next = some (.cells [iv 0] 3 0)) ⟨(Keeps.refl H4).add _ r4, rfl, get_add_eq r4⟩ ?_
 rintro H5 ⟨k5, n5, g5⟩
 have r5 : H5.next < 2 ^ 59 := by omega
 refine y_loud rfl rfl (o_append1A (H0 := H) (l := List.replicate i 0) (z := 0) rfl rfl rfl rfl rfl (by rw [List.length_replicate]; omega) r5 rfl g5 (hP.keep k5) (fun d hd => by have := hpo d hd; have := k03.nx; omega) (k4.trans k5) fun p' H6 hA6 hn6 k6 n6 f6 => ⟨fun j b hb => .inr ?_, ?_⟩)
 · obtain ⟨rfl, _⟩ := hb
   rw [f6 _ (by omega) (fun e => by have := hpo _ e; omega), k5.get _ (by omega)]; exact sm
 have r6 : H6.next < 2 ^ 59 := by omega
 have hp'l := hA6.lt
 have hQ6 : Ap H6 q ((nums n).take i) := hQ.frame (by omega) fun d hd => by
   have := hQ.lt d hd
   rw [f6 d (by omega) (fun e => hpq d e hd), k5.get d this]
 have f26 : H6.get H2.next = H4.get H2.next := by rw [f6 _ (by omega) (fun e => by have := hpo _ e; omega), k5.get _ (by omega)]
 have f16 : H6.get H1.next = H4.get H1.next := by rw [f6 _ (by omega) (fun e => by have := hpo _ e; omega), k5.get _ (by omega)]
 have f06 : H6.get H.next = H4.get H.next := by rw [f6 _ (by omega) (fun e => by have := hpo _ e; omega), k5.get _ (by omega)]
 refine y_field rfl rfl rfl rfl ?_
 refine y_build1 rfl rfl rfl rfl r6 ?_
 refine WY.mem (fun H7 => Keeps H6 H7 ∧ H7.next = H6.next + 1 ∧ H7.get H6.next = some (.cells [iv (i : Nat)] 3 0)) ⟨(Keeps.refl H6).add _ r6, rfl, get_add_eq r6⟩ ?_
 rintro H7 ⟨k7, n7, g7⟩
 have r7 : H7.next < 2 ^ 59 := by omega
 refine y_loud rfl rfl (o_append1A (H0 := H) (l := (nums n).take i) (z := (i : Nat)) rfl rfl rfl rfl rfl (by rw [List.length_take]; omega) r7 rfl g7 (hQ6.keep k7) (fun d hd => by have := hqo d hd; have := k03.nx; omega) (k6.trans k7) fun q' H8 hA8 hn8 k8 n8 f8 => ⟨fun j b hb => .inr ?_, ?_⟩)
 · obtain ⟨rfl, _⟩ := hb
   rw [f8 _ (by omega) (fun e => by have := hqo _ e; omega), k7.get _ (by omega), f26]; exact sm
 have hP8 : Ap H8 p' (List.replicate i 0 ++ [0]) := hA6.frame (by omega) fun d hd => by
   have h1 := hp'l d hd
   have h2 := hn6 d hd
   rw [f8 d (by omega) (fun e => by have := hQ.lt d e; omega), k7.get d h1]
 have f28 : H8.get H2.next = H4.get H2.next := by rw [f8 _ (by omega) (fun e => by have := hqo _ e; omega), k7.get _ (by omega), f26]
 have f18 : H8.get H1.next = H4.get H1.next := by rw [f8 _ (by omega) (fun e => by have := hqo _ e; omega), k7.get _ (by omega), f16]
 have f08 : H8.get H.next = H4.get H.next := by rw [f8 _ (by omega) (fun e => by have := hqo _ e; omega), k7.get _ (by omega), f06]
 refine y_loud rfl rfl (o_store rfl rfl rfl (f28.trans b24.g) (by simp) hP8.ky.sl.one ⟨fun j b hb => .inl ?_, ?_⟩)
 · rcases hb with ⟨_, rfl | rfl⟩ <;> kernel_rfl
 refine y_field rfl rfl rfl rfl ?_
 refine y_loud rfl rfl (o_store rfl rfl rfl (get_set_eq r2) (by simp) hA8.ky.sl.one ⟨fun j b hb => .inl ?_, ?_⟩)
 · rcases hb with ⟨_, rfl | rfl⟩ <;> kernel_rfl
 refine y_nil ?_
 have hp'o : ∀ d, p'.own = some d → H3.next ≤ d := fun d hd => by have := hn6 d hd; omega
 have hq'o : ∀ d, q'.own = some d → H3.next ≤ d := fun d hd => by have := hn8 d hd; omega
 have hpq' : ∀ d, p'.own = some d → q'.own ≠ some d := fun d hd e => by have := hn8 d e; have := hp'l d hd; omega
 rw [← List.replicate_succ'] at hP8
 rw [show (nums n).take i ++ [((i : Nat) : Int)] = (nums n).take (i + 1) by rw [List.take_add_one, nums_get hi']; rfl] at hA8
 refine Wp.mem (fun H9 => Keeps H H9 ∧ H9.next = H8.next ∧ Bk H9 H.next 29 r.cs ∧ H9.get H1.next = some (.cells [.v (.slice none 0 0), .v (.slice none 0 0)] 30 0) ∧ Bk H9 H2.next 30 [p', q'] ∧ Ap H9 p' (List.replicate (i + 1) 0) ∧ Ap H9 q' ((nums n).take (i + 1))) ⟨(k8.set _ (by omega) r2).set _ (by omega) r2, rfl, ⟨r0, ?_⟩, ?_, ⟨r2, get_set_eq r2⟩, ?_, ?_⟩ ?_
 · rw [get_set_ne r2 (by omega), get_set_ne r2 (by omega), f08]; exact b4.g
 · rw [get_set_ne r2 (by omega), get_set_ne r2 (by omega), f18]; exact g4
 · exact hP8.frame (Nat.le_refl _) fun d hd => by have := hp'o d hd; rw [get_set_ne r2 (by omega), get_set_ne r2 (by omega)]
 · exact hA8.frame (Nat.le_refl _) fun d hd => by have := hq'o d hd; rw [get_set_ne r2 (by omega), get_set_ne r2 (by omega)]
 rintro H9 ⟨k9, n9, b9, g9, b29, hP9, hQ9⟩
 repeat (first | apply qN | refine qM rfl rfl ?_ | refine zq4 rfl rfl rfl rfl (inc (by omega)) ?_ | apply qR)
 exact ⟨n - (i + 1), by omega, i + 1, p', q', [_,_,_,_,_,_,_,_,_,_,_,_,_,_,_,_,_,_,_], rfl, by omega, k9, by omega, by omega, b9, g9, b29, hP9, hQ9, hp'o, hq'o, hpq', rfl, rfl⟩
end Go.Ev
