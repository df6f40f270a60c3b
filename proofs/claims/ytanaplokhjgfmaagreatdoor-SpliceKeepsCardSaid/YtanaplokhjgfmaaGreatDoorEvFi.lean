/- Part of an evaluator of calls that is proved sound, and of what it gives about this program. No condition of its own. -/
import Derived.Test.YtanaplokhjgfmaaGreatDoorEvFg
set_option linter.unusedVariables false
set_option linter.unusedSimpArgs false
set_option linter.unusedSectionVars false
set_option maxRecDepth 100000
set_option maxHeartbeats 4000000
namespace Go.Ev
open Go.Proofs
theorem takeMarks_ok : ∀ {M : List Nat} {H : AH}, M.Nodup → (∀ b ∈ M, H.get b = some .dfd ∧ b < 2 ^ 59) → ∃ H', takeMarks M H = some H' ∧ H'.next = H.next ∧ H'.gl = H.gl ∧ ∀ b, b ∉ M → H'.get b = H.get b
 | [], H, _, _ => ⟨H, rfl, rfl, rfl, fun _ _ => rfl⟩
 | b :: M, H, hn, h => by
   obtain ⟨h1, h2⟩ := h b (by simp)
   obtain ⟨hb, hn⟩ := List.nodup_cons.1 hn
   obtain ⟨H', k1, k2, k3, k4⟩ := takeMarks_ok (M := M) (H := H.set b (some .shut)) hn fun c hc => by
     rw [AH.get_set _ _ _ _ h2, if_neg (fun e => hb (by rw [← e]; exact hc))]
     exact h c (by simp [hc])
   refine ⟨H', ?_, k2, k3, fun c hc => ?_⟩
   · unfold takeMarks; rw [h1]; exact k1
   · rw [k4 c (fun e => hc (by simp [e])), AH.get_set _ _ _ _ h2, if_neg (fun e => hc (by simp [e]))]
theorem Wp.busy {E : Env} {g : FuncId} {rd : Bool} {c : Code} {T : List AV} {M : List Nat} {H : AH} {Q : QX} {lb : Nat} {X : AB} (h39 : lb < 2 ^ 59) (hw : ∀ Hz : AH, Hz.next = H.next → Hz.gl = H.gl → Hz.get lb = some X → (∀ b, b ≠ lb → Hz.get b = H.get b) → Wp E g rd c T M Hz Q) : Wp E g rd c T M (H.set lb (some X)) Q :=
 hw _ rfl rfl (get_set_eq h39) fun b hb => get_set_ne h39 hb
structure RpR (He : AH) (L : AB) (lb sb ab tb rb b4 db n0 : Nat) (y : AV) (r : Ru) (ks : List Tk) (tkS gpS : List Int) (i : Nat) (H : AH) : Prop where
 kp : Keeps He H
 n1 : n0 ≤ H.next
 n2 : H.next ≤ n0 + 200 * i
 ile : i ≤ ks.length
 lp : H.get lb = some L
 gtb : H.get tb = some (.cells [y] 52 0)
 grb : H.get rb = some (.cells r.cs 23 0)
 gb4 : H.get b4 = some (.cells [.v (.slice none 0 0), .v (.slice none 0 0)] 26 0)
 gdb : H.get db = some .dfd
 st : ∃ p q tk gp rr rf, H.get sb = some (.cells [p, q] 26 0) ∧ H.get ab = some (.cells [rr] 55 0) ∧ Ky H p tk ∧ Ky H q gp ∧ p.one = true ∧ q.one = true ∧ rr.beq rr = true ∧ GR H 108 2 rr (rfs rf) ∧ (∀ b, p.own = some b ∨ q.own = some b ∨ rr.own = some b → He.next ≤ b ∧ b ≠ lb ∧ b ≠ sb ∧ b ≠ ab ∧ b ≠ tb ∧ b ≠ rb ∧ b ≠ b4 ∧ b ≠ db) ∧ (∀ b, rr.own = some b → p.own ≠ some b ∧ q.own ≠ some b) ∧ staE r tk gp = 0 ∧ rf.length ≤ i ∧ rpS r tkS gpS 0 ks = ((rpS r tk gp i (ks.drop i)).1, rf ++ (rpS r tk gp i (ks.drop i)).2)
variable {O : CallF} (hq : Quiet O)
include hq
theorem rngRp (He H0 : AH) (L : AB) (sb ab tb rb b4 : Nat) (y : AV) (r : Ru) (ks : List Tk) (tkS gpS : List Int) (p q : AV) (k0 : Keeps He H0) (hy : Ks He y ks) (gt : H0.get tb = some (.cells [y] 52 0)) (gr : H0.get rb = some (.cells r.cs 23 0)) (g4 : H0.get b4 = some (.cells [.v (.slice none 0 0), .v (.slice none 0 0)] 26 0)) (gs : H0.get sb = some (.cells [p, q] 26 0)) (ga : H0.get ab = some (.cells [.v (.slice none 0 0)] 55 0))
   (l1 : sb < H0.next) (l2 : ab < H0.next) (l3 : tb < H0.next) (l4 : rb < H0.next) (l5 : b4 < H0.next) (hp : Ky H0 p tkS) (hqq : Ky H0 q gpS) (hp1 : p.one = true) (hq1 : q.one = true) (hfr : ∀ b, p.own = some b ∨ q.own = some b → He.next ≤ b ∧ b ≠ sb ∧ b ≠ ab ∧ b ≠ tb ∧ b ≠ rb ∧ b ≠ b4) (hsta : staE r tkS gpS = 0) (hml : ks.length ≤ 100000) (hr : H0.next + 21000000 < 2 ^ 59)
   (hyl : ∀ i Hm Hx kv k, ks[i]? = some k → RpR He L (H0.next + 1) sb ab tb rb b4 H0.next (H0.next + 2) y r ks tkS gpS i Hm → Keeps Hm Hx → Hx.next = Hm.next + 1 → kv.cells = k.cs → ∀ K' : AV → AH → Prop, (∀ H2, RpR He L (H0.next + 1) sb ab tb rb b4 H0.next (H0.next + 2) y r ks tkS gpS (i + 1) H2 → Hx.next ≤ H2.next → K' (.v (.bool true)) H2) → Yl (ENV O) (H0.next + 1) [iv ((i : Int) + 1), kv] Hx K')
   (K : AV → AH → Prop) (hk : ∀ r' H', RpR He L (H0.next + 1) sb ab tb rb b4 H0.next (H0.next + 2) y r ks tkS gpS ks.length H' → K r' H') : Ca (ENV O) 142 [.yl (H0.next + 1), .ptr tb 0] ((H0.add .dfd).add L) K := by
 have h39 : H0.next < 2 ^ 59 := by omega
 have h39' : (H0.add .dfd).next < 2 ^ 59 := by show H0.next + 1 < _; omega
 have hg : ∀ b, b < H0.next → ((H0.add .dfd).add L).get b = H0.get b := fun b hb => by
   rw [get_add_ne h39' (by show b ≠ H0.next + 1; omega), get_add_ne h39 (by omega)]
 have x0 := k0.nx
 have nn : ((H0.add .dfd).add L).next = H0.next + 2 := rfl
 refine c142 hq (H0.next + 1) tb y ks (RpR He L (H0.next + 1) sb ab tb rb b4 H0.next (H0.next + 2) y r ks tkS gpS) hml ?_ hyl _ ?_ K hk
 · intro i H hR
   have := hR.n2
   have := hR.ile
   exact ⟨at_ptr (by omega) hR.gtb rfl, (hy.keep hR.kp).sl, by omega⟩
 · refine ⟨⟨by omega, k0.gl, fun b hb => (hg b (by omega)).trans (k0.get b hb)⟩, by omega, by omega, Nat.zero_le _, get_add_eq h39', (hg tb l3).trans gt, (hg rb l4).trans gr, (hg b4 l5).trans g4, ?_, p, q, tkS, gpS, .v (.slice none 0 0), [], (hg sb l1).trans gs, (hg ab l2).trans ga, hp.frame rfl (by omega) (fun b hb => hg b (hp.old b hb)), hqq.frame rfl (by omega) (fun b hb => hg b (hqq.old b hb)), hp1, hq1, rfl, .inl ⟨rfl, rfl⟩, fun b hb => ?_, (fun b hb => by cases hb), hsta, Nat.le_refl _, by simp⟩
   · rw [get_add_ne h39' (by show H0.next ≠ H0.next + 1; omega), get_add_eq h39]
   · have hb' : p.own = some b ∨ q.own = some b := by
       rcases hb with h | h | h
       · exact .inl h
       · exact .inr h
       · cases h
     obtain ⟨a1, a2, a3, a4, a5, a6⟩ := hfr b hb'
     have hlt : b < H0.next := by
       rcases hb' with h | h
       · exact hp.old b h
       · exact hqq.old b h
     exact ⟨a1, by omega, a2, a3, a4, a5, a6, by omega⟩
theorem c26 (H : AH) (r : Ru) (rv y : AV) (ks : List Tk) (hrv : rv.cells = r.cs) (hy : Ks H y ks) (hy1 : y.one = true) (hml : ks.length ≤ 100000) (hr : H.next + 30000000 < 2 ^ 59) (K : AV → AH → Prop)
   (hke : rpE r ks ≠ 0 → ∀ H', Keeps H H' → H'.next ≤ H.next + 20 + 6 * ks.length → K (.tup [.agg [.v (.slice none 0 0), .v (.slice none 0 0)], .v (.slice none 0 0), iv (rpE r ks)]) H')
   (hk : rpE r ks = 0 → ∀ H' p q rr n, r.s = ((n : Nat) : Int) → Keeps H H' → H'.next ≤ H.next + 100 + 210 * ks.length → Ky H' p (rpS r (List.replicate n 0) (nums n) 0 ks).1.1 → Ky H' q (rpS r (List.replicate n 0) (nums n) 0 ks).1.2 → p.one = true → q.one = true → GR H' 108 2 rr (rfs (rpS r (List.replicate n 0) (nums n) 0 ks).2) → K (.tup [.agg [p, q], rr, iv 0]) H') : Ca (ENV O) 26 [rv, y] H K := by
 refine ca_intro (hq _ _ _ rfl) (fn := Tryz.f26) (by rfl) rfl ?_
 have r0 : H.next < 2 ^ 59 := by omega
 repeat (first | apply qR | apply qS)
 refine wops_cons (o_boxS (cs := r.cs) rfl rfl hrv r0 fun H1 n1 k1 b1 => ?_)
 have r1 : H1.next < 2 ^ 59 := by omega
 have x1 := k1.nx
 refine wops_cons (o_allocA (zs := [.v (.slice none 0 0), .v (.slice none 0 0)]) rfl rfl (z := .agg #[.slice none 0 0, .slice none 0 0]) (by kernel_rfl) rfl r1 ?_)
 refine WOps.mem (fun H2 => Keeps H1 H2 ∧ H2.next = H1.next + 1 ∧ H2.get H1.next = some (.cells [.v (.slice none 0 0), .v (.slice none 0 0)] 26 0)) ⟨(Keeps.refl H1).add _ r1, rfl, get_add_eq r1⟩ ?_
 rintro H2 ⟨k2, n2, g2⟩
 have b12 := b1.keep (by omega) k2
 have k02 := k1.trans k2
 have x2 := k2.nx
 clear b1
 show WOps _ _ _ _ _ _
 repeat (first | apply qN | refine qM rfl rfl ?_ | apply qS)
 refine wp_drawK rfl ?_
 refine k_load4 rfl rfl rfl rfl b12 (lkP (n := 0) b12 (by omega) (ru_beq r)) ?_
 refine k_load4 rfl rfl rfl rfl b12 (lkP (n := 0) b12 (by omega) (ru_beq r)) ?_
 refine k_move rfl rfl rfl ?_
 refine k_call rfl rfl rfl (fun b h => by cases h) (wop_callF rfl rfl rfl (fn := Tryz.f14) (by rfl) ?_)
 refine c14 hq H2 r _ rfl (by omega) _ fun H3 k3 n3 => ⟨k3.nx, k3, ?_⟩
 refine k_call rfl rfl rfl (fun b h => by cases h) (wop_callF rfl rfl rfl (fn := Tryz.f82) (by rfl) ?_)
 refine c82 hq H3 r _ y ks rfl ((hy.keep k02).keep k3) hml (by omega) _ fun H4 k4 n4 => ⟨k4.nx, k3.trans k4, ?_⟩
 have r4 : H4.next < 2 ^ 59 := by omega
 refine k_loud rfl rfl (o_build2 rfl rfl rfl rfl r4 ⟨(k3.trans k4).add _ r4, ?_⟩)
 refine WK.mem (fun H5 => Keeps H4 H5 ∧ H5.next = H4.next + 1 ∧ Sl H5 (.slc H4.next 0 2 2) (ivs [ruE r, tksE r ks])) ⟨(Keeps.refl H4).add _ r4, rfl, sl_new (cs := ivs [ruE r, tksE r ks]) r4 2⟩ ?_
 rintro H5 ⟨k5, n5, hs5⟩
 have k25 := (k3.trans k4).trans k5
 refine k_call rfl rfl rfl (fun b h => by cases h) (wop_callF rfl rfl rfl (fn := Tryz.f68) (by rfl) ?_)
 refine cFirst hq H5 _ _ hs5 (by show 2 ≤ 1000; decide) _ ⟨Nat.le_refl _, k25, ?_⟩
 clear hs5
 show WK _ _ _ _ _ _ _
 rw [show firstNZ [ruE r, tksE r ks] = rpE r ks from rfl]
 have k05 := k02.trans k25
 have g25 := (k25.get _ (by omega)).trans g2
 have b15 := b12.keep (by omega) k25
 have x25 := k25.nx
 have x3 := k3.nx
 have x4 := k4.nx
 have n5' : H5.next ≤ H.next + 10 + 6 * ks.length := by omega
 have n5'' : H.next + 2 ≤ H5.next := by omega
 clear b12 g2 n3 n4 n5 k3 k4 k5
 repeat (first | refine qM rfl rfl ?_ | refine k_nil ?_ | refine k_assign rfl rfl rfl ?_ | apply qR | apply qS)
 refine WOps.cut (fun T => ∃ Y : List AV, T = (lget Y 0 :: y :: .ptr H.next 0 :: lget Y 1 :: .ptr H1.next 0 :: lget Y 2 :: lget Y 3 :: iv (rpE r ks) :: lget Y 4 :: lget Y 5 :: lget Y 6 :: lget Y 7 :: lget Y 8 :: lget Y 9 :: lget Y 10 :: lget Y 11 :: lget Y 12 :: lget Y 13 :: lget Y 14 :: lget Y 15 :: iv (rpE r ks) :: lget Y 16 :: lget Y 17 :: lget Y 18 :: lget Y 19 :: lget Y 20 :: lget Y 21 :: lget Y 22 :: lget Y 23 :: lget Y 24 :: lget Y 25 :: lget Y 26 :: lget Y 27 :: lget Y 28 :: lget Y 29 :: lget Y 30 :: lget Y 31 :: lget Y 32 :: lget Y 33 :: lget Y 34 :: lget Y 35 :: lget Y 36 :: lget Y 37 :: lget Y 38 :: lget Y 39 :: lget Y 40 :: lget Y 41 :: lget Y 42 :: [])) ⟨[_,_,_,_,_,_,_,_,_,_,_,_,_,_,_,_,_,_,_,_,_,_,_,_,_,_,_,_,_,_,_,_,_,_,_,_,_,_,_,_,_,_,_], rfl⟩ ?_
 rintro T ⟨Y, rfl⟩
 by_cases h0 : rpE r ks = 0
 rotate_left
 · have hke := hke h0
   clear hk
   generalize rpE r ks = w at h0 hke ⊢
   refine wops_cons (wop_bin (op := .neq) (v := .bool true) rfl rfl rfl rfl (by simp [binI, h0]) ?_)
   repeat (first | apply qN | refine qT rfl ?_ | apply qR | apply qS)
   refine wops_cons (o_buildS0 rfl rfl ?_)
   repeat (first | refine qM rfl rfl ?_)
   refine wops_cons (o_storeA (n := 2) (vs := [.v (.slice none 0 0), .v (.slice none 0 0)]) rfl rfl (by kernel_rfl) rfl rfl rfl rfl g25 (Nat.le_refl _) ?_)
   refine WOps.mem (fun H7 => Keeps H H7 ∧ H7.next = H5.next ∧ H7.get H1.next = some (.cells [.v (.slice none 0 0), .v (.slice none 0 0)] 26 0)) ⟨k05.set _ (by omega) r1, rfl, get_set_eq r1⟩ ?_
   rintro H7 ⟨k7, n7, g7⟩
   repeat (first | apply qN | refine qM rfl rfl ?_)
   refine Wp.cut (fun T => ∃ Y : List AV, T = (lget Y 0 :: lget Y 1 :: lget Y 2 :: lget Y 3 :: .ptr H1.next 0 :: .v (.slice none 0 0) :: iv w :: lget Y 4 :: lget Y 5 :: lget Y 6 :: lget Y 7 :: lget Y 8 :: lget Y 9 :: lget Y 10 :: lget Y 11 :: lget Y 12 :: lget Y 13 :: lget Y 14 :: lget Y 15 :: lget Y 16 :: lget Y 17 :: lget Y 18 :: lget Y 19 :: lget Y 20 :: lget Y 21 :: lget Y 22 :: lget Y 23 :: lget Y 24 :: lget Y 25 :: lget Y 26 :: lget Y 27 :: lget Y 28 :: lget Y 29 :: lget Y 30 :: lget Y 31 :: lget Y 32 :: lget Y 33 :: lget Y 34 :: lget Y 35 :: lget Y 36 :: lget Y 37 :: lget Y 38 :: lget Y 39 :: lget Y 40 :: lget Y 41 :: lget Y 42 :: lget Y 43 :: lget Y 44 :: [])) ⟨[_,_,_,_,_,_,_,_,_,_,_,_,_,_,_,_,_,_,_,_,_,_,_,_,_,_,_,_,_,_,_,_,_,_,_,_,_,_,_,_,_,_,_,_,_], rfl⟩ ?_
   rintro T ⟨Y, rfl⟩
   refine wp_ret ?_
   refine ⟨.tup [.agg [.v (.slice none 0 0), .v (.slice none 0 0)], .v (.slice none 0 0), iv w], H7, ?_, hke H7 k7 (by omega)⟩
   have hres : resA Tryz.prog (lget Y 0 :: lget Y 1 :: lget Y 2 :: lget Y 3 :: .ptr H1.next 0 :: .v (.slice none 0 0) :: iv w :: lget Y 4 :: lget Y 5 :: lget Y 6 :: lget Y 7 :: lget Y 8 :: lget Y 9 :: lget Y 10 :: lget Y 11 :: lget Y 12 :: lget Y 13 :: lget Y 14 :: lget Y 15 :: lget Y 16 :: lget Y 17 :: lget Y 18 :: lget Y 19 :: lget Y 20 :: lget Y 21 :: lget Y 22 :: lget Y 23 :: lget Y 24 :: lget Y 25 :: lget Y 26 :: lget Y 27 :: lget Y 28 :: lget Y 29 :: lget Y 30 :: lget Y 31 :: lget Y 32 :: lget Y 33 :: lget Y 34 :: lget Y 35 :: lget Y 36 :: lget Y 37 :: lget Y 38 :: lget Y 39 :: lget Y 40 :: lget Y 41 :: lget Y 42 :: lget Y 43 :: lget Y 44 :: []) H7 Tryz.f26.results.toList = some [.agg [.v (.slice none 0 0), .v (.slice none 0 0)], .v (.slice none 0 0), iv w] := by
     show (match loadA Tryz.prog 26 H1.next 0 H7, (some [.v (.slice none 0 0), iv w] : Option (List AV)) with | some x, some m => some (x :: m) | _, _ => none) = _
     rw [load2 g7]
   unfold leaveM resultsA
   simp only [takeMarks]
   rw [show (ENV O).P = Tryz.prog from rfl, hres]
 have hk := hk h0
 clear hke
 obtain ⟨hr0, ht0⟩ := first2n (show firstNZ [ruE r, tksE r ks] = 0 from h0)
 obtain ⟨hl256, htk⟩ := tksE_0 ht0
 have hR := ruE_ok hr0
 obtain ⟨n, hn⟩ : ∃ n : Nat, r.s = (n : Int) := ⟨r.s.toNat, by omega⟩
 rw [h0]
 refine wops_cons (wop_bin (op := .neq) (v := .bool false) rfl rfl rfl rfl rfl ?_)
 repeat (first | apply qN | refine zqb rfl rfl rfl ‹_› ?_ | refine qF rfl ?_ | apply qR | apply qS | apply qK)
 refine wops_cons (wop_callF rfl rfl rfl (fn := Tryz.f66) (by rfl) ?_)
 refine c66 hq H5 r n _ rfl hn (by omega) (by omega) _ fun H6 b c k6 n6 hM1 hM2 hb hc => ⟨k6.nx, ?_⟩
 have x6 := k6.nx
 have r6 : H6.next < 2 ^ 59 := by omega
 have hb1 := hM1.1
 have hb2 := hM2.1
 skip
 refine wops_cons (o_allocA (zs := [.v (.slice none 0 0), .v (.slice none 0 0)]) rfl rfl (z := .agg #[.slice none 0 0, .slice none 0 0]) (by kernel_rfl) rfl r6 ?_)
 refine wops_cons (o_storeA (n := 2) (vs := [.slc b 0 n n, .slc c 0 n n]) rfl rfl (by kernel_rfl) rfl rfl rfl rfl (get_add_eq r6) (Nat.le_refl _) ?_)
 refine WOps.mem (fun H7 => Keeps H6 H7 ∧ H7.next = H6.next + 1 ∧ H7.get H6.next = some (.cells [.slc b 0 n n, .slc c 0 n n] 26 0)) ⟨((Keeps.refl H6).add _ r6).set _ (Nat.le_refl _) r6, rfl, get_set_eq r6⟩ ?_
 rintro H7 ⟨k7, n7, g7⟩
 have x7 := k7.nx
 have r7 : H7.next < 2 ^ 59 := by omega
 show WOps _ _ _ _ _ _
 repeat (first | apply qN | apply qR | apply qS)
 refine wops_cons (o_allocA (zs := [.v (.slice none 0 0)]) rfl rfl (z := .slice none 0 0) (by kernel_rfl) rfl r7 ?_)
 refine WOps.mem (fun H8 => Keeps H7 H8 ∧ H8.next = H7.next + 1 ∧ H8.get H7.next = some (.cells [.v (.slice none 0 0)] 55 0)) ⟨(Keeps.refl H7).add _ r7, rfl, get_add_eq r7⟩ ?_
 rintro H8 ⟨k8, n8, g8⟩
 have x8 := k8.nx
 show WOps _ _ _ _ _ _
 repeat (first | apply qN | refine qM rfl rfl ?_ | apply qR | apply qS)
 refine wops_cons (wop_callF rfl rfl rfl (fn := Tryz.f83) (by rfl) ?_)
 refine c83 hq H8 y hy1 (by omega) _ fun H9 k9 n9 g9 => ⟨k9.nx, ?_⟩
 have x9 := k9.nx
 have k79 := k8.trans k9
 have k69 := k7.trans k79
 have k59 := k6.trans k69
 have k09 := k05.trans k59
 have b19 := b15.keep (by omega) k59
 have g29 := (k59.get _ (by omega)).trans g25
 have g79 := (k79.get _ (by omega)).trans g7
 have g89 := (k9.get _ (by omega)).trans g8
 have hM1 := hM1.keep k69
 have hM2 := hM2.keep k69
 have hsta := sta_start hr0 hn
 clear b15 g25 g7 g8 k6 k7 k8 k9 k69 k79 k59
 repeat (first | apply qN | apply qB)
 refine Wp.cut (fun T => ∃ Y : List AV, T = (lget Y 0 :: y :: .ptr H.next 0 :: lget Y 1 :: .ptr H1.next 0 :: lget Y 2 :: lget Y 3 :: lget Y 4 :: .ptr H6.next 0 :: .ptr H7.next 0 :: lget Y 5 :: lget Y 6 :: lget Y 7 :: lget Y 8 :: lget Y 9 :: lget Y 10 :: lget Y 11 :: lget Y 12 :: lget Y 13 :: lget Y 14 :: lget Y 15 :: lget Y 16 :: lget Y 17 :: lget Y 18 :: lget Y 19 :: lget Y 20 :: lget Y 21 :: .fn (.func 142) [] [.ptr H8.next 0] :: lget Y 22 :: lget Y 23 :: lget Y 24 :: lget Y 25 :: lget Y 26 :: lget Y 27 :: lget Y 28 :: lget Y 29 :: lget Y 30 :: lget Y 31 :: lget Y 32 :: lget Y 33 :: lget Y 34 :: lget Y 35 :: lget Y 36 :: lget Y 37 :: lget Y 38 :: lget Y 39 :: lget Y 40 :: lget Y 41 :: [])) ⟨[_,_,_,_,_,_,_,_,_,_,_,_,_,_,_,_,_,_,_,_,_,_,_,_,_,_,_,_,_,_,_,_,_,_,_,_,_,_,_,_,_,_], rfl⟩ ?_
 rintro T ⟨Y, rfl⟩
 have h9 : H9.next + 21000000 < 2 ^ 59 := by omega
 refine wp_range (fn := Tryz.f142) rfl (by omega) (by rfl) ?_
 refine rngRp hq H H9 _ H6.next H7.next H8.next H.next H1.next y r ks (List.replicate n 0) (nums n) (.slc b 0 n n) (.slc c 0 n n) k09 hy g9 b19.g g29 g79 g89 (by omega) (by omega) (by omega) (by omega) (by omega) (hM1.ky List.length_replicate) (hM2.ky (nums_len n)) rfl rfl (fun d hd => ?_) hsta hml h9 ?_ _ ?_
 · rcases hd with hd | hd <;> (cases hd; omega)
 · intro i Hm Hx kv k hkk hRm kx nx hkv K' hK'
   obtain ⟨p, q, tk, gp, rr, rf, gs, ga, hp, hqq, hp1, hq1, hrb, hG, hfr, hdj, hst, hrfl, hrp⟩ := hRm.st
   have hi' := (List.getElem?_eq_some_iff.1 hkk).1
   have hmk : tukE r k = 0 := htk k (List.mem_of_getElem? hkk)
   rw [dropT hkk, rpS] at hrp
   obtain ⟨j, z, g, hT, hlg⟩ := tkd_of hst hmk
   obtain ⟨e1, e2⟩ := hT.nx
   have m1 := hRm.n1
   have m2 := hRm.n2
   have mk := hRm.kp
   have rX : Hx.next < 2 ^ 59 := by omega
   have hlb : H9.next + 1 < 2 ^ 59 := by omega
   have xx := kx.nx
   refine yl_intro ((kx.get _ (by omega)).trans hRm.lp) rfl (by kernel_rfl) (by kernel_rfl) ?_
   repeat (first | apply qN | refine qM rfl rfl ?_ | apply qR | apply qS)
   refine wops_cons (o_allocA (zs := [iv 0, iv 0, iv 0]) rfl rfl (z := .agg #[.int .i64 0, .int .i64 0, .int .i64 0]) (by kernel_rfl) rfl rX ?_)
   refine wops_cons (o_storeA (n := 3) (vs := k.cs) rfl rfl (by kernel_rfl) rfl hkv rfl rfl (get_add_eq rX) (Nat.le_refl _) ?_)
   refine WOps.mem (fun Hy => Keeps Hx Hy ∧ Hy.next = Hx.next + 1 ∧ Bk Hy Hx.next 28 k.cs) ⟨((Keeps.refl Hx).add _ rX).set _ (Nat.le_refl _) rX, rfl, ⟨rX, get_set_eq rX⟩⟩ ?_
   rintro Hy ⟨ky, ny, bky⟩
   have xy := ky.nx
   have kxy := kx.trans ky
   show WOps _ _ _ _ _ _
   repeat (first | apply qN)
   refine ⟨rfl, _, _, _, _, _, _, (kxy.get _ (by omega)).trans hRm.lp, ?_⟩
   refine Wp.busy hlb fun Hz nz glz gz fz => ?_
   have fm : ∀ b, b < Hm.next → b ≠ H9.next + 1 → Hz.get b = Hm.get b := fun b hb hb2 => (fz b hb2).trans (kxy.get b hb)
   have glm : Hz.gl = Hm.gl := glz.trans kxy.gl
   have hol : ∀ b, b < H9.next → b ≠ H9.next + 1 := fun b hb => by omega
   have brz : Bk Hz H.next 23 r.cs := ⟨r0, (fm _ (by omega) (by omega)).trans hRm.grb⟩
   have bsz : Bk Hz H6.next 26 [p, q] := ⟨r6, (fm _ (by omega) (by omega)).trans gs⟩
   have bkz : Bk Hz Hx.next 28 k.cs := ⟨rX, (fz _ (by omega)).trans bky.g⟩
   have gaz : Hz.get H7.next = some (.cells [rr] 55 0) := (fm _ (by omega) (by omega)).trans ga
   have hpz : Ky Hz p tk := hp.frame glm (by omega) fun b hb => fm b (hp.old b hb) (hfr b (.inl hb)).2.1
   have hqz : Ky Hz q gp := hqq.frame glm (by omega) fun b hb => fm b (hqq.old b hb) (hfr b (.inr (.inl hb))).2.1
   have hGz : GR Hz 108 2 rr (rfs rf) := hG.frame (by omega) fun b hb => fm b (hG.old b hb) (hfr b (.inr (.inr hb))).2.1
   have ktz : Hz.get H8.next = some (.cells [y] 52 0) := (fm _ (by omega) (by omega)).trans hRm.gtb
   have k4z : Hz.get H1.next = some (.cells [.v (.slice none 0 0), .v (.slice none 0 0)] 26 0) := (fm _ (by omega) (by omega)).trans hRm.gb4
   have kdz : Hz.get H9.next = some .dfd := (fm _ (by omega) (by omega)).trans hRm.gdb
   have kez : Keeps H Hz := ⟨by omega, glm.trans mk.gl, fun b hb => (fm b (by omega) (by omega)).trans (mk.get b hb)⟩
   have fw : ∀ b, p.own = some b ∨ q.own = some b ∨ rr.own = some b → b < Hm.next := fun b hb => by
     rcases hb with h | h | h
     · exact hp.old b h
     · exact hqq.old b h
     · exact hG.old b h
   have nz' : Hz.next = Hm.next + 2 := by omega
   clear bky kxy ky kx fz
   refine Wp.cut (fun T => ∃ Y : List AV, T = (lget Y 0 :: lget Y 1 :: .ptr H.next 0 :: lget Y 2 :: lget Y 3 :: lget Y 4 :: lget Y 5 :: lget Y 6 :: .ptr H6.next 0 :: .ptr H7.next 0 :: iv ((i : Int) + 1) :: .ptr Hx.next 0 :: lget Y 7 :: lget Y 8 :: lget Y 9 :: lget Y 10 :: lget Y 11 :: lget Y 12 :: lget Y 13 :: lget Y 14 :: lget Y 15 :: lget Y 16 :: lget Y 17 :: lget Y 18 :: lget Y 19 :: lget Y 20 :: lget Y 21 :: lget Y 22 :: lget Y 23 :: lget Y 24 :: lget Y 25 :: lget Y 26 :: lget Y 27 :: lget Y 28 :: lget Y 29 :: lget Y 30 :: lget Y 31 :: lget Y 32 :: lget Y 33 :: lget Y 34 :: lget Y 35 :: lget Y 36 :: lget Y 37 :: lget Y 38 :: lget Y 39 :: lget Y 40 :: lget Y 41 :: lget Y 42 :: [])) ⟨[_,_,_,_,_,_,_,_,_,_,_,_,_,_,_,_,_,_,_,_,_,_,_,_,_,_,_,_,_,_,_,_,_,_,_,_,_,_,_,_,_,_,_], rfl⟩ ?_
   rintro T ⟨Y, rfl⟩
   repeat (first | refine zqb rfl rfl rfl ‹_› ?_ | apply qR | apply qS | apply qB)
   refine wops_cons (wop_callF rfl rfl rfl (fn := Tryz.f79) (by rfl) ?_)
   refine c79 hq Hz r k _ _ p q tk gp j z g rfl rfl hT hpz hqz (by omega) _ fun H3 k3 n3 => ⟨k3.nx, ?_⟩
   have x3 := k3.nx
   rw [← hlg]
   have br3 := brz.keep (by omega) k3
   have bs3 := bsz.keep (by omega) k3
   have bk3 := bkz.keep (by omega) k3
   by_cases hz0 : lgE r tk gp k = 0
   · rw [if_pos hz0] at hrp
     rw [hz0]
     repeat (first | apply qN | refine qM rfl rfl ?_ | apply qR | apply qS)
     refine wops_cons (wop_bin (op := .neq) (v := .bool false) rfl rfl rfl rfl rfl ?_)
     repeat (first | apply qN | refine zqb rfl rfl rfl ‹_› ?_ | refine qF rfl ?_ | apply qR | apply qK)
     refine wops_cons (wop_callF rfl rfl rfl (fn := Tryz.f80) (by rfl) ?_)
     refine c80x hq H3 r k _ _ p q tk gp j z g rfl rfl hT (hpz.keep k3) (hqz.keep k3) (by omega) _ fun H4 a1 a2 k4 n4 hO1 hO2 ha1 ha2 => ⟨k4.nx, ?_⟩
     have x4 := k4.nx
     have k34 := k3.trans k4
     have gs4 := (k34.get _ (by omega)).trans bsz.g
     have a19 := hO1.2.1
     have a29 := hO2.2.1
     have a1l := hO1.1
     have a2l := hO2.1
     skip
     refine wops_cons (o_storeA (n := 2) (vs := [.slu a1 0 tk.length 1, .slu a2 0 gp.length 1]) rfl rfl (by kernel_rfl) rfl rfl rfl rfl gs4 (Nat.le_refl _) ?_)
     have hn4 := nz'
     refine WOps.mem (fun H5 => H5.next = H4.next ∧ H5.gl = H4.gl ∧ H5.get H6.next = some (.cells [.slu a1 0 tk.length 1, .slu a2 0 gp.length 1] 26 0) ∧ ∀ b, b ≠ H6.next → H5.get b = H4.get b) ⟨rfl, rfl, get_set_eq r6, fun b hb => get_set_ne r6 hb⟩ ?_
     rintro Hw ⟨nw, glw, gw, fw2⟩
     repeat (first | apply qN)
     have fzw : ∀ b, b < Hz.next → b ≠ H6.next → Hw.get b = Hz.get b := fun b hb hb2 => (fw2 b hb2).trans (k34.get b hb)
     refine ⟨.busy, _, _, _, _, _, _, (fzw _ (by omega) (by omega)).trans gz, ?_⟩
     have fin : ∀ X, ∀ b, b ≠ H9.next + 1 → (Hw.set (H9.next + 1) X).get b = Hw.get b := fun X b hb => get_set_ne hlb hb
     have hO1w : Own Hw a1 (tk.set j (z + 1)) := ⟨by omega, a19, (fw2 _ (by omega)).trans hO1.2.2⟩
     have hO2w : Own Hw a2 (gp.set j (gapA r k g)) := ⟨by omega, a29, (fw2 _ (by omega)).trans hO2.2.2⟩
     have kyp := hO1w.ky
     have kyq := hO2w.ky
     rw [List.length_set] at kyp kyq
     refine hK' _ ⟨⟨by show H.next ≤ Hw.next; omega, by show Hw.gl = _; exact glw.trans (k34.gl.trans kez.gl), fun b hb => (fin _ b (by omega)).trans ((fzw b (by omega) (by omega)).trans (kez.get b hb))⟩, by show _ ≤ Hw.next; omega, by show Hw.next ≤ _; omega, by omega, get_set_eq hlb, (fin _ _ (by omega)).trans ((fzw _ (by omega) (by omega)).trans ktz), (fin _ _ (by omega)).trans ((fzw _ (by omega) (by omega)).trans brz.g), (fin _ _ (by omega)).trans ((fzw _ (by omega) (by omega)).trans k4z), (fin _ _ (by omega)).trans ((fzw _ (by omega) (by omega)).trans kdz),
       .slu a1 0 tk.length 1, .slu a2 0 gp.length 1, nxT tk k, nxG r gp k, rr, rf, (fin _ _ (by omega)).trans gw, (fin _ _ (by omega)).trans ((fzw _ (by omega) (by omega)).trans gaz), ?_, ?_, rfl, rfl, hrb, hGz.frame (by show Hz.next ≤ Hw.next; omega) (fun b hb => ?_), fun b hb => ?_, fun b hb => ?_, sta_next hst hmk hz0, by omega, hrp⟩ (by show Hx.next ≤ Hw.next; omega)
     · rw [e1]; exact kyp.frame rfl (Nat.le_refl _) fun b hb => by cases hb; exact fin _ _ (by omega)
     · rw [e2]; exact kyq.frame rfl (Nat.le_refl _) fun b hb => by cases hb; exact fin _ _ (by omega)
     · have h1 := fw b (.inr (.inr hb))
       have h2 := hfr b (.inr (.inr hb))
       exact (fin _ _ h2.2.1).trans (fzw b (by omega) h2.2.2.1)
     · rcases hb with h | h | h
       · cases h; omega
       · cases h; omega
       · exact hfr b (.inr (.inr h))
     · have h1 := fw b (.inr (.inr hb))
       exact ⟨fun e => by cases e; omega, fun e => by cases e; omega⟩
   · rw [if_neg hz0] at hrp
     have a3 : At H3 (.ptr H7.next 0) rr := at_ptr r7 ((k3.get _ (by omega)).trans gaz) rfl
     have hG3 := hGz.keep k3
     have r3 : H3.next < 2 ^ 59 := by omega
     have hrfb : rf.length ≤ 100000 := by omega
     generalize lgE r tk gp k = w at hz0 hrp ⊢
     repeat (first | apply qN | refine qM rfl rfl ?_ | apply qR | apply qS)
     refine wops_cons (wop_bin (op := .neq) (v := .bool true) rfl rfl rfl rfl (by simp [binI, hz0]) ?_)
     repeat (first | apply qN | refine qM rfl rfl ?_ | refine zq6 rfl rfl ‹_› ?_ | refine qT rfl ?_ | apply qR | apply qS)
     refine wops_cons (o_buildP rfl rfl rfl rfl ?_)
     refine wops_cons (o_build1R (p := [iv ((i : Int) + 1), iv w]) rfl rfl rfl rfl r3 ?_)
     refine WOps.mem (fun H4 => Keeps H3 H4 ∧ H4.next = H3.next + 1 ∧ H4.get H3.next = some (.cells [iv ((i : Int) + 1), iv w] 108 0)) ⟨(Keeps.refl H3).add _ r3, rfl, get_add_eq r3⟩ ?_
     rintro H4 ⟨k4, n4, g4⟩
     have x4 := k4.nx
     have k34 := k3.trans k4
     have hG4 := hG3.keep k4
     refine wops_cons (o_appendRR (rows := rfs rf) rfl rfl rfl rfl rfl (by rw [rfs_length]; omega) (by omega) rfl g4 rfl rfl (rfs_len rf) hG4 fun r8 Hv nv glv fv hr8 hGv => ?_)
     have gav : Hv.get H7.next = some (.cells [rr] 55 0) := (fv _ (by omega) (fun e => (hfr _ (.inr (.inr e))).2.2.2.1 rfl)).trans ((k34.get _ (by omega)).trans gaz)
     refine wops_cons (o_store rfl rfl rfl gav (Nat.succ_pos _) (by subst hr8; rfl) ?_)
     refine WOps.mem (fun H5 => H5.next = Hv.next ∧ H5.gl = Hv.gl ∧ H5.get H7.next = some (.cells [r8] 55 0) ∧ ∀ b, b ≠ H7.next → H5.get b = Hv.get b) ⟨rfl, rfl, get_set_eq r7, fun b hb => get_set_ne r7 hb⟩ ?_
     rintro Hw ⟨nw, glw, gw, fw2⟩
     repeat (first | apply qN | apply qE)
     have fzw : ∀ b, b < Hz.next → b ≠ H7.next → rr.own ≠ some b → Hw.get b = Hz.get b := fun b hb hb2 hb3 => (fw2 b hb2).trans ((fv b (by omega) hb3).trans (k34.get b hb))
     have nr : ∀ b, b = H9.next + 1 ∨ b < H.next ∨ b = H.next ∨ b = H6.next ∨ b = H8.next ∨ b = H1.next ∨ b = H9.next → rr.own ≠ some b := fun b hb e => by
       have := hfr b (.inr (.inr e))
       omega
     have rro : r8.own = some H4.next := by rw [hr8]; rfl
     refine ⟨.busy, _, _, _, _, _, _, (fzw _ (by omega) (by omega) (nr _ (.inl rfl))).trans gz, ?_⟩
     have fin : ∀ X, ∀ b, b ≠ H9.next + 1 → (Hw.set (H9.next + 1) X).get b = Hw.get b := fun X b hb => get_set_ne hlb hb
     rw [rfs_snoc] at hGv
     have hGw : GR Hw 108 2 r8 (rfs (rf ++ [((i : Int) + 1, w)])) := hGv.frame (by omega) fun b hb => fw2 b (by rw [rro] at hb; cases hb; omega)
     refine hK' _ ⟨⟨by show H.next ≤ Hw.next; omega, by show Hw.gl = _; exact glw.trans (glv.trans (k34.gl.trans kez.gl)), fun b hb => (fin _ b (by omega)).trans ((fzw b (by omega) (by omega) (nr _ (.inr (.inl hb)))).trans (kez.get b hb))⟩, by show _ ≤ Hw.next; omega, by show Hw.next ≤ _; omega, by omega, get_set_eq hlb, (fin _ _ (by omega)).trans ((fzw _ (by omega) (by omega) (nr _ (by simp))).trans ktz), (fin _ _ (by omega)).trans ((fzw _ (by omega) (by omega) (nr _ (by simp))).trans brz.g), (fin _ _ (by omega)).trans ((fzw _ (by omega) (by omega) (nr _ (by simp))).trans k4z), (fin _ _ (by omega)).trans ((fzw _ (by omega) (by omega) (nr _ (by simp))).trans kdz),
       p, q, tk, gp, r8, rf ++ [((i : Int) + 1, w)], (fin _ _ (by omega)).trans ((fzw _ (by omega) (by omega) (nr _ (by simp))).trans bsz.g), (fin _ _ (by omega)).trans gw, ?_, ?_, hp1, hq1, by rw [hr8]; simp [AV.beq], hGw.frame (Nat.le_refl _) (fun b hb => fin _ _ (by rw [rro] at hb; cases hb; omega)), fun b hb => ?_, fun b hb => ?_, hst, by rw [List.length_append]; exact Nat.add_le_add hrfl (Nat.le_refl _), by rw [hrp]; simp⟩ (by show Hx.next ≤ Hw.next; omega)
     · refine hpz.frame (by show Hw.gl = _; exact glw.trans (glv.trans k34.gl)) (by show Hz.next ≤ Hw.next; omega) fun b hb => ?_
       have h1 := fw b (.inl hb)
       have h2 := hfr b (.inl hb)
       exact (fin _ _ h2.2.1).trans (fzw b (by omega) h2.2.2.2.1 fun e => (hdj b e).1 hb)
     · refine hqz.frame (by show Hw.gl = _; exact glw.trans (glv.trans k34.gl)) (by show Hz.next ≤ Hw.next; omega) fun b hb => ?_
       have h1 := fw b (.inr (.inl hb))
       have h2 := hfr b (.inr (.inl hb))
       exact (fin _ _ h2.2.1).trans (fzw b (by omega) h2.2.2.2.1 fun e => (hdj b e).2 hb)
     · rcases hb with h | h | h
       · exact hfr b (.inl h)
       · exact hfr b (.inr (.inl h))
       · rw [rro] at h; cases h; omega
     · rw [rro] at hb; cases hb
       exact ⟨fun e => by have := fw _ (.inl e); omega, fun e => by have := fw _ (.inr (.inl e)); omega⟩
 · intro r' H2 hRm
   obtain ⟨p, q, tk, gp, rr, rf, gs, ga, hp, hqq, hp1, hq1, hrb, hG, hfr, hdj, hst, hrfl, hrp⟩ := hRm.st
   rw [List.drop_length] at hrp
   have hrp : rpS r (List.replicate n 0) (nums n) 0 ks = ((tk, gp), rf) := by rw [hrp]; simp [rpS]
   have hk := fun H' p q rr => hk H' p q rr n hn
   rw [hrp] at hk
   have m1 := hRm.n1
   have m2 := hRm.n2
   have mk := hRm.kp
   have hlb : H9.next + 1 < 2 ^ 59 := by omega
   refine ⟨m1, _, _, _, _, _, _, _, .normal, hRm.lp, (fun e => by cases e), rfl, ?_⟩
   refine Wp.busy hlb fun H3 n3 gl3 g3 f3 => ?_
   have gs3 : H3.get H6.next = some (.cells [p, q] 26 0) := (f3 _ (by omega)).trans gs
   have ga3 : H3.get H7.next = some (.cells [rr] 55 0) := (f3 _ (by omega)).trans ga
   have g43 : H3.get H1.next = some (.cells [.v (.slice none 0 0), .v (.slice none 0 0)] 26 0) := (f3 _ (by omega)).trans hRm.gb4
   have a3 : At H3 (.ptr H7.next 0) rr := at_ptr r7 ga3 rfl
   have sb : beqs [p, q] [p, q] = true := by simp [beqs, hp.sl.beq, hqq.sl.beq]
   repeat (first | apply qS)
   refine wp_drawY (fun _ b => b = H6.next ∨ b = H7.next) rfl ?_
   refine y_loadA (n := 2) rfl rfl rfl rfl r6 gs3 rfl (Nat.le_refl _) (.inl rfl) ?_
   refine y_load rfl rfl rfl a3 (fun b hb => by cases hb; exact .inr rfl) ?_
   refine y_loud rfl rfl (o_storeA (n := 2) (vs := [p, q]) rfl rfl (by kernel_rfl) rfl rfl rfl (by simp [hp1, hq1]) g43 (Nat.le_refl _) ⟨fun j b hb => .inr ?_, ?_⟩)
   · rcases hb with rfl | rfl
     · rw [get_set_ne r1 (by omega), gs3]; simp [sameBlk, sb]
     · rw [get_set_ne r1 (by omega), ga3]; simp [sameBlk, beqs, hrb]
   refine y_assign rfl rfl rfl ?_
   refine y_assign rfl rfl rfl ?_
   refine y_nil ?_
   refine Wp.mem (fun H4 => H4.next = H3.next ∧ H4.gl = H3.gl ∧ H4.get H1.next = some (.cells [p, q] 26 0) ∧ ∀ b, b ≠ H1.next → H4.get b = H3.get b) ⟨rfl, rfl, get_set_eq r1, fun b hb => get_set_ne r1 hb⟩ ?_
   rintro H4 ⟨n4, gl4, g4, f4⟩
   obtain ⟨H5, t1, t2, t3, t4⟩ := takeMarks_ok (M := [H9.next]) (H := H4) (by simp) fun b hb => by
     rw [List.mem_singleton] at hb
     subst hb
     exact ⟨(f4 _ (by omega)).trans ((f3 _ (by omega)).trans hRm.gdb), by omega⟩
   have t4' : ∀ b, b ≠ H9.next → H5.get b = H4.get b := fun b hb => t4 b (by simp [hb])
   skip
   refine Wp.cut (fun T => ∃ Y : List AV, T = (lget Y 0 :: lget Y 1 :: lget Y 2 :: lget Y 3 :: .ptr H1.next 0 :: rr :: iv 0 :: lget Y 4 :: lget Y 5 :: lget Y 6 :: lget Y 7 :: lget Y 8 :: lget Y 9 :: lget Y 10 :: lget Y 11 :: lget Y 12 :: lget Y 13 :: lget Y 14 :: lget Y 15 :: lget Y 16 :: lget Y 17 :: lget Y 18 :: lget Y 19 :: lget Y 20 :: lget Y 21 :: lget Y 22 :: lget Y 23 :: lget Y 24 :: lget Y 25 :: lget Y 26 :: lget Y 27 :: lget Y 28 :: lget Y 29 :: lget Y 30 :: lget Y 31 :: lget Y 32 :: lget Y 33 :: lget Y 34 :: lget Y 35 :: lget Y 36 :: lget Y 37 :: lget Y 38 :: lget Y 39 :: lget Y 40 :: lget Y 41 :: lget Y 42 :: lget Y 43 :: lget Y 44 :: [])) ⟨[_,_,_,_,_,_,_,_,_,_,_,_,_,_,_,_,_,_,_,_,_,_,_,_,_,_,_,_,_,_,_,_,_,_,_,_,_,_,_,_,_,_,_,_,_], rfl⟩ ?_
   rintro T ⟨Y, rfl⟩
   refine wp_ret ?_
   have g5 : H5.get H1.next = some (.cells [p, q] 26 0) := (t4' _ (by omega)).trans g4
   have f25 : ∀ b, b ≠ H9.next → b ≠ H1.next → b ≠ H9.next + 1 → H5.get b = H2.get b := fun b h1 h2 h3 => (t4' b h1).trans ((f4 b h2).trans (f3 b h3))
   have hres : resA Tryz.prog (lget Y 0 :: lget Y 1 :: lget Y 2 :: lget Y 3 :: .ptr H1.next 0 :: rr :: iv 0 :: lget Y 4 :: lget Y 5 :: lget Y 6 :: lget Y 7 :: lget Y 8 :: lget Y 9 :: lget Y 10 :: lget Y 11 :: lget Y 12 :: lget Y 13 :: lget Y 14 :: lget Y 15 :: lget Y 16 :: lget Y 17 :: lget Y 18 :: lget Y 19 :: lget Y 20 :: lget Y 21 :: lget Y 22 :: lget Y 23 :: lget Y 24 :: lget Y 25 :: lget Y 26 :: lget Y 27 :: lget Y 28 :: lget Y 29 :: lget Y 30 :: lget Y 31 :: lget Y 32 :: lget Y 33 :: lget Y 34 :: lget Y 35 :: lget Y 36 :: lget Y 37 :: lget Y 38 :: lget Y 39 :: lget Y 40 :: lget Y 41 :: lget Y 42 :: lget Y 43 :: lget Y 44 :: []) H5 Tryz.f26.results.toList = some [.agg [p, q], rr, iv 0] := by
     show (match loadA Tryz.prog 26 H1.next 0 H5, (some [rr, iv 0] : Option (List AV)) with | some x, some m => some (x :: m) | _, _ => none) = _
     rw [load2 g5]
   have gl5 : H5.gl = H2.gl := t3.trans (gl4.trans gl3)
   refine ⟨.tup [.agg [p, q], rr, iv 0], H5, ?_, hk H5 p q rr ⟨by omega, gl5.trans mk.gl, fun b hb => (f25 b (by omega) (by omega) (by omega)).trans (mk.get b hb)⟩ (by omega) ?_ ?_ hp1 hq1 ?_⟩
   · unfold leaveM resultsA
     rw [t1, show (ENV O).P = Tryz.prog from rfl]
     simp only
     rw [hres]
   · exact hp.frame gl5 (by omega) fun b hb => by have := hfr b (.inl hb); exact f25 b (by omega) (by omega) (by omega)
   · exact hqq.frame gl5 (by omega) fun b hb => by have := hfr b (.inr (.inl hb)); exact f25 b (by omega) (by omega) (by omega)
   · exact hG.frame (by omega) fun b hb => by have := hfr b (.inr (.inr hb)); exact f25 b (by omega) (by omega) (by omega)
end Go.Ev
