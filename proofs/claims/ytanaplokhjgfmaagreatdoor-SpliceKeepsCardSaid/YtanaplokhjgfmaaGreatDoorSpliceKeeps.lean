/- For every rule and every list of tucks the law SpliceKeeps returns true. Conditions: those of the row: the listed package-level variables hold what the text of the program lays, and the card ties that. -/
import Derived.Test.YtanaplokhjgfmaaGreatDoorEvOb
import Derived.Deep.Slices
import Derived.Test.YtanaplokhjgfmaaGreatDoorEvFk
set_option linter.unusedVariables false
set_option linter.unusedSimpArgs false
set_option linter.unusedSectionVars false
set_option maxRecDepth 100000
namespace Go.Ev
open Go.Proofs Go.Shelf
theorem ky_of {w : World} {x : Value} {l : List Int} (h : IntsW w x l) (hc : ∃ a n c, x = .slice a n c ∧ n ≤ c) : Ky ⟨0, .lf, worldGl w⟩ (.v x) l :=
 ⟨h.sl, Old.v _, by obtain ⟨a, n, c, rfl, hc⟩ := hc; exact hc, fun b hb => by cases hb⟩
end Go.Ev
namespace Go.Proofs.YtanaplokhjgfmaaGreatDoor
open Go.ChangeShapes Go.WideShapes Go.ChangeAt Go.WideMaps Go.WideElems Go.RowKit Go.Ev
theorem cells23x : Tryz.prog.cellsOf 23 = 5 := by kernel_rfl
theorem cells26x : Tryz.prog.cellsOf 26 = 2 := by kernel_rfl
theorem cells28x : Tryz.prog.cellsOf 28 = 3 := by kernel_rfl
theorem array5 {α : Type} {cs : Array α} (h : cs.size = 5) : ∃ c0 c1 c2 c3 c4, cs = #[c0, c1, c2, c3, c4] := by
 obtain ⟨l⟩ := cs
 match l, h with
 | [c0, c1, c2, c3, c4], _ => exact ⟨c0, c1, c2, c3, c4, rfl⟩
theorem open_rule {H : Type} {enc : TypeId × Value → H} {W : World} {v : Value} {d : DataW H} {ps : List MemPlace} (h : DataW.Trod enc Tryz.prog W 0 (fun _ => true) true 23 v d ps) {base : Nat} (hval : Value.okWide Tryz.prog W .any base 23 v) :
   ∃ a b c d e, v = .agg #[.int .i64 a, .int .i64 b, .int .i64 c, .int .i64 d, .int .i64 e] := by
 obtain ⟨cs, rfl, hsz⟩ := okWide_struct Tryz.underlying23 hval
 rw [cells23x] at hsz
 obtain ⟨c0, c1, c2, c3, c4, rfl⟩ := array5 hsz
 obtain ⟨fuel, hf⟩ := h
 have hf : DataW.trod enc Tryz.prog W 0 (fun _ => true) true fuel 23 [c0, c1, c2, c3, c4] = some (d, ps) := by simpa [Value.cells] using hf
 obtain ⟨xs, n, _, _, hl, hlen, hf⟩ := DataW.trod_struct Tryz.underlying23 hf
 match xs, hlen with
 | [y0, y1, y2, y3, y4], _ =>
   have h0 : DataW.trod enc Tryz.prog W 0 (fun _ => true) true n 3 [c0] = some y0 := by have := hf 0 _ rfl; have e := cells3; simpa [e] using this
   have h1 : DataW.trod enc Tryz.prog W 0 (fun _ => true) true n 3 [c1] = some y1 := by have := hf 1 _ rfl; have e := cells3; simpa [e] using this
   have h2 : DataW.trod enc Tryz.prog W 0 (fun _ => true) true n 3 [c2] = some y2 := by have := hf 2 _ rfl; have e := cells3; simpa [e] using this
   have h3 : DataW.trod enc Tryz.prog W 0 (fun _ => true) true n 3 [c3] = some y3 := by have := hf 3 _ rfl; have e := cells3; simpa [e] using this
   have h4 : DataW.trod enc Tryz.prog W 0 (fun _ => true) true n 3 [c4] = some y4 := by have := hf 4 _ rfl; have e := cells3; simpa [e] using this
   obtain ⟨z0, e0, _, _⟩ := DataW.trod_int Tryz.underlying3 h0
   obtain ⟨z1, e1, _, _⟩ := DataW.trod_int Tryz.underlying3 h1
   obtain ⟨z2, e2, _, _⟩ := DataW.trod_int Tryz.underlying3 h2
   obtain ⟨z3, e3, _, _⟩ := DataW.trod_int Tryz.underlying3 h3
   obtain ⟨z4, e4, _, _⟩ := DataW.trod_int Tryz.underlying3 h4
   simp at e0 e1 e2 e3 e4
   subst e0 e1 e2 e3 e4
   exact ⟨z0, z1, z2, z3, z4, rfl⟩
theorem open_tuck {H : Type} {enc : TypeId × Value → H} {W : World} {v : Value} {d : DataW H} {ps : List MemPlace} (h : DataW.Trod enc Tryz.prog W 0 (fun _ => true) true 28 v d ps) {base : Nat} (hval : Value.okWide Tryz.prog W .any base 28 v) :
   ∃ a b c, v = .agg #[.int .i64 a, .int .i64 b, .int .i64 c] := by
 obtain ⟨cs, rfl, hsz⟩ := okWide_struct Tryz.underlying28 hval
 rw [cells28x] at hsz
 obtain ⟨c0, c1, c2, rfl⟩ := Go.Joins.array3 hsz
 obtain ⟨fuel, hf⟩ := h
 have hf : DataW.trod enc Tryz.prog W 0 (fun _ => true) true fuel 28 [c0, c1, c2] = some (d, ps) := by simpa [Value.cells] using hf
 obtain ⟨xs, n, _, _, hl, hlen, hf⟩ := DataW.trod_struct Tryz.underlying28 hf
 match xs, hlen with
 | [y0, y1, y2], _ =>
   have h0 : DataW.trod enc Tryz.prog W 0 (fun _ => true) true n 3 [c0] = some y0 := by have := hf 0 _ rfl; have e := cells3; simpa [e] using this
   have h1 : DataW.trod enc Tryz.prog W 0 (fun _ => true) true n 3 [c1] = some y1 := by have := hf 1 _ rfl; have e := cells3; simpa [e] using this
   have h2 : DataW.trod enc Tryz.prog W 0 (fun _ => true) true n 3 [c2] = some y2 := by have := hf 2 _ rfl; have e := cells3; simpa [e] using this
   obtain ⟨z0, e0, _, _⟩ := DataW.trod_int Tryz.underlying3 h0
   obtain ⟨z1, e1, _, _⟩ := DataW.trod_int Tryz.underlying3 h1
   obtain ⟨z2, e2, _, _⟩ := DataW.trod_int Tryz.underlying3 h2
   simp at e0 e1 e2
   subst e0 e1 e2
   exact ⟨z0, z1, z2, rfl⟩
theorem open_state {H : Type} {enc : TypeId × Value → H} {W : World} {v : Value} {d : DataW H} {ps : List MemPlace} (h : DataW.Trod enc Tryz.prog W 0 (fun _ => true) true 26 v d ps) {base : Nat} (hval : Value.okWide Tryz.prog W .any base 26 v) :
   ∃ x y tk gp, v = .agg #[x, y] ∧ IntsW W x tk ∧ (∃ a n c, x = .slice a n c ∧ n ≤ c) ∧ IntsW W y gp ∧ (∃ a n c, y = .slice a n c ∧ n ≤ c) := by
 obtain ⟨cs, rfl, hsz⟩ := okWide_struct Tryz.underlying26 hval
 rw [cells26x] at hsz
 obtain ⟨c0, c1, rfl⟩ := Go.Joins.array2 hsz
 obtain ⟨fuel, hf⟩ := h
 have hf : DataW.trod enc Tryz.prog W 0 (fun _ => true) true fuel 26 [c0, c1] = some (d, ps) := by simpa [Value.cells] using hf
 obtain ⟨y0, y1, n, _, _, h0, h1⟩ := trod_struct2 Tryz.underlying26 hf
 simp only [cells24x] at h0 h1
 obtain ⟨tk, hx, hcx⟩ := slice_of (v := c0) (by simpa using h0)
 obtain ⟨gp, hy, hcy⟩ := slice_of (v := c1) (by simpa using h1)
 exact ⟨c0, c1, tk, gp, rfl, hx, hcx, hy, hcy⟩
end Go.Proofs.YtanaplokhjgfmaaGreatDoor
namespace Go.Ev
open Go.Proofs Go.Shelf
theorem spliceKeeps_calls (w : World) (hg : gtest (worldGl w) = true) (a b c d e : Int) (x : Value) (ks : List Tk) (hx : SlR 3 ⟨0, .lf, worldGl w⟩ (.v x) (tks ks)) :
   Calls Tryz.prog 6 #[.agg #[.int .i64 a, .int .i64 b, .int .i64 c, .int .i64 d, .int .i64 e], x] w fun e w' => e = .returned (.bool true) ∧ RowKit.Below w.heap.size w w' :=
 law_calls (args := [.agg #[.int .i64 a, .int .i64 b, .int .i64 c, .int .i64 d, .int .i64 e], x]) w (c6l OW_quiet ⟨0, .lf, worldGl w⟩ (fun H' h => OW_awake (H := ⟨0, .lf, worldGl w⟩) hg H' h) ⟨a, b, c, d, e⟩ _ _ ks rfl ⟨hx, Old.v _, fun b hb => by cases hb⟩ (by cases x with | slice a n c => rfl | _ => exact hx.elim) (by show 0 ≤ 1000; decide) _ fun _ => rfl)
theorem take3 {vs : List Value} {k : Nat} {x y z : Value} (h1 : vs[k]? = some x) (h2 : vs[k + 1]? = some y) (h3 : vs[k + 2]? = some z) : (vs.drop k).take 3 = [x, y, z] ∧ k + 3 ≤ vs.length := by
 obtain ⟨a1, e1⟩ := List.getElem?_eq_some_iff.1 h1
 obtain ⟨a2, e2⟩ := List.getElem?_eq_some_iff.1 h2
 obtain ⟨a3, e3⟩ := List.getElem?_eq_some_iff.1 h3
 refine ⟨?_, by omega⟩
 rw [List.drop_eq_getElem_cons a1, List.drop_eq_getElem_cons a2, List.drop_eq_getElem_cons a3, e1, e2, e3]
 rfl
end Go.Ev
namespace Go.Proofs.YtanaplokhjgfmaaGreatDoor
open Go.ChangeShapes Go.WideShapes Go.ChangeAt Go.WideMaps Go.WideElems Go.RowKit Go.Ev
theorem tucks_of {H : Type} {enc : TypeId × Value → H} {W : World} {v : Value} {d : DataW H} {ps : List MemPlace} (h : DataW.Trod enc Tryz.prog W 0 (fun _ => true) true 52 v d ps) {base : Nat} (hval : Value.okWide Tryz.prog W .any base 52 v) : ∃ ks, SlR 3 ⟨0, .lf, worldGl W⟩ (.v v) (tks ks) ∧ ((∃ els sp, d = .slice els sp ∧ els.length = ks.length) ∨ ks = []) := by
 obtain ⟨a0, len, cap, rfl⟩ := okWide_slice Tryz.underlying52 hval
 obtain ⟨fuel, hf⟩ := h
 have hf : DataW.trod enc Tryz.prog W 0 (fun _ => true) true fuel 52 [.slice a0 len cap] = some (d, ps) := by simpa [Value.cells] using hf
 rcases Go.Deep.open_slice Tryz.underlying52 hf with ⟨hcs, _⟩ | ⟨a, len', cap', m, n, D, Pl, hcs, _, hl, _, hm, hdd, hx⟩
 · simp at hcs
   obtain ⟨rfl, rfl, rfl⟩ := hcs
   exact ⟨[], ⟨rfl, .inl rfl⟩, .inr rfl⟩
 · simp at hcs
   obtain ⟨rfl, rfl, rfl⟩ := hcs
   simp only [if_true] at hm
   subst hm
   have each : ∀ i, i < m → ∃ k : Tk, W.cell? (a.add (i * 3)) = some (.int .i64 k.a) ∧ W.cell? (a.add (i * 3 + 1)) = some (.int .i64 k.b) ∧ W.cell? (a.add (i * 3 + 2)) = some (.int .i64 k.c) := fun i hi => by
     obtain ⟨cs', h1, h2⟩ := hx i hi
     rw [cells28x] at h1
     obtain ⟨_, hlen, hcell⟩ := World.cells?_some h1
     obtain ⟨xs, n', _, _, _, hxl, hg⟩ := DataW.trod_struct Tryz.underlying28 h2
     match xs, hxl, cs', hlen with
     | [y0, y1, y2], _, [c0, c1, c2], _ =>
       have h0 : DataW.trod enc Tryz.prog W 0 (fun _ => true) true n' 3 [c0] = some y0 := by have := hg 0 _ rfl; have e := cells3; simpa [e] using this
       have h1 : DataW.trod enc Tryz.prog W 0 (fun _ => true) true n' 3 [c1] = some y1 := by have := hg 1 _ rfl; have e := cells3; simpa [e] using this
       have h2 : DataW.trod enc Tryz.prog W 0 (fun _ => true) true n' 3 [c2] = some y2 := by have := hg 2 _ rfl; have e := cells3; simpa [e] using this
       obtain ⟨z0, e0, _, _⟩ := DataW.trod_int Tryz.underlying3 h0
       obtain ⟨z1, e1, _, _⟩ := DataW.trod_int Tryz.underlying3 h1
       obtain ⟨z2, e2, _, _⟩ := DataW.trod_int Tryz.underlying3 h2
       simp at e0 e1 e2
       subst e0 e1 e2
       have q0 := hcell 0 (by omega)
       have q1 := hcell 1 (by omega)
       have q2 := hcell 2 (by omega)
       rw [Go.Deep.add_add] at q0 q1 q2
       exact ⟨⟨z0, z1, z2⟩, by simpa using q0, by simpa using q1, by simpa using q2⟩
   let Z : Nat → Tk := fun i => if h : i < m then Classical.choose (each i h) else ⟨0, 0, 0⟩
   have hZ : ∀ i, i < m → W.cell? (a.add (i * 3)) = some (.int .i64 (Z i).a) ∧ W.cell? (a.add (i * 3 + 1)) = some (.int .i64 (Z i).b) ∧ W.cell? (a.add (i * 3 + 2)) = some (.int .i64 (Z i).c) := fun i hi => by
     have := Classical.choose_spec (each i hi)
     simp only [Z, dif_pos hi]
     exact this
   have hd1 := congrArg Prod.fst hdd
   refine ⟨(List.range len).map Z, ?_, .inl ⟨_, _, hd1, by simp⟩⟩
   refine ⟨by simp [tks], ?_⟩
   rcases Nat.eq_zero_or_pos len with h0 | h0
   · subst h0; exact .inl rfl
   right
   obtain ⟨b, off, spot⟩ := a
   have hs : spot = none := by simpa [Addr.add] using World.cell?_spot (hZ 0 (by omega)).1
   subst hs
   have hc0 := (hZ 0 (by omega)).1
   rw [addr_plus] at hc0
   obtain ⟨vs, hvs, _⟩ := cell_gl hc0
   refine ⟨b, off, vs, rfl, hvs, fun j p hj => ?_⟩
   have hjl : j < len := by
     have := (List.getElem?_eq_some_iff.1 hj).1
     simpa [tks] using this
   have hp : p = (Z j).cs := by
     rw [tks, List.getElem?_map, List.getElem?_map, List.getElem?_range hjl] at hj
     simpa using hj.symm
   subst hp
   obtain ⟨c0, c1, c2⟩ := hZ j (by omega)
   rw [addr_plus] at c0 c1 c2
   obtain ⟨vs0, g0, e0⟩ := cell_gl c0
   obtain ⟨vs1, g1, e1⟩ := cell_gl c1
   obtain ⟨vs2, g2, e2⟩ := cell_gl c2
   rw [hvs] at g0 g1 g2
   cases g0
   cases g1
   cases g2
   obtain ⟨t1, t2⟩ := take3 e0 e1 e2
   exact ⟨by rw [t1]; rfl, t2⟩
theorem liftedKeeps (os : Os) (started : os.Started) (H : Type) (enc : TypeId × Value → H) :
   ReturnsInHanded {} Tryz.checked os 6 .any (fun w args => (Rows.spliceKeepsSpec.pre enc Tryz.prog Tryz.f6 [] false w args ∧ laidMetH Tryz.prog laidL w) ∧ sizedMet enc Tryz.prog Tryz.f6 (OpenSpec.ofChange Rows.spliceKeepsSpec) false w args)
     (Rows.spliceKeepsSpec.post enc Tryz.prog Tryz.f6 false true false false) := by
 refine returnsInHanded_and_shaped (C := Tryz.checked) (X := fun w _ => laidMetH Tryz.prog laidL w) (fun _ _ _ hh h => h.of_heap hh) own started (by kernel_rfl) Tryz.func6
   (ChangeSpec.witness_shaped (enc := enc) (C := Tryz.checked) (os := os) (X := fun w _ => laidMetH Tryz.prog laidL w) false (World.laidAll Tryz.prog os laidL) #[.agg #[.int .i64 0, .int .i64 0, .int .i64 0, .int .i64 0, .int .i64 0], .slice none 0 0] 8 (World.laidAll_os _ _ _)
     (World.shaped_of_ZipB (by kernel_rfl) (by kernel_rfl)) (by kernel_rfl) (by kernel_rfl) (by kernel_rfl)
     (by rw [MakeChecks.laidMetH_plain _ _ _ (by kernel_rfl)]; exact laidMet_laidAll _ (by kernel_rfl) (by kernel_rfl))) ?_
 intro W base args ds gs before hval0 hW hsh hL
 have hval : ∀ (j : Nat) t v, Tryz.f6.params[j]? = some t → args[j]? = some v → Value.okWide Tryz.prog W .any base t v := hval0
 have hW' := hW
 obtain ⟨p, q, hA0, hV, rfl, hfz, hnd⟩ := hW
 have hA : DataW.TrodAll enc Tryz.prog W 0 (fun _ => true) true Tryz.f6.params.toList args.toList ds p := hA0
 rw [Tryz.params6] at hA hval
 obtain ⟨v0, v1, d0, d1, p0, p1, rfl, rfl, rfl, h0, h1⟩ := trodAll_two hA
 obtain ⟨rfl, rfl⟩ := trodVars_none hV
 obtain ⟨a, b, c, d, e, rfl⟩ := open_rule h0 (hval 0 23 v0 rfl rfl)
 obtain ⟨ks, hks, _⟩ := tucks_of h1 (hval 1 52 v1 rfl rfl)
 clear hA0 hval0
 simp only [List.append_nil, List.nil_append] at hW'
 have hlt : ∀ z ∈ p0 ++ p1, z.block < W.heap.size := fun z hz => hW'.lt z (by simpa using hz)
 have hlt0 : ∀ z ∈ p0, z.block < W.heap.size := fun z hz => hlt z (by simp [hz])
 have hlt1 : ∀ z ∈ p1, z.block < W.heap.size := fun z hz => hlt z (by simp [hz])
 refine (spliceKeeps_calls W (pow_of_laid hL) a b c d e v1 ks hks).mono fun e W' ⟨he, hw⟩ => ?_
 subst he
 refine ⟨_, rfl, post_below (pa := p0 ++ p1) (pv := []) hW' hw (fun _ _ _ => trodAll_mk1 (shut_bool Tryz.underlying4 _)) (fun sp hsp => ?_) (fun _ _ => rfl) (by simp) (ok_one (by kernel_rfl) rfl (okWide_bool_mk Tryz.underlying4 _))⟩
 exact trodAll_mk2
   (Trod_stays laidOut (by kernel_rfl) (of_decide_eq_true (by kernel_rfl)) h0 (fun z hz => hw.same (hlt0 z hz)) (fun z hz => hsp z (by simp [hz])))
   (Trod_stays laidOut (by kernel_rfl) (of_decide_eq_true (by kernel_rfl)) h1 (fun z hz => hw.same (hlt1 z hz)) (fun z hz => hsp z (by simp [hz])))
theorem closed8 : joinedFacts Tryz.pinned.checked.prog 6 Tryz.f6 Rows.spliceKeepsSpec Rows.spliceKeepsRow = true := by kernel_rfl
theorem isw8 : Tryz.f6.isWrapper Tryz.pinned.checked.prog Rows.spliceKeepsRow.wrapper Rows.spliceKeepsRow.mainSum := by unfold Func.isWrapper; first | (rw [if_pos (by decide +kernel)]; kernel_rfl) | (rw [if_neg (by decide +kernel)]; exact ⟨rfl, rfl⟩)
theorem isi8 : Tryz.f6.isInstance Tryz.pinned.checked.prog Rows.spliceKeepsRow.origin Rows.spliceKeepsRow.targs := (of_decide_eq_true (by kernel_rfl))
theorem fnn8 : Tryz.pinned.checked.prog.funcNamed Rows.spliceKeepsRow.func = some 6 := by kernel_rfl
theorem lifted8 (os : Os) (started : os.Started) (H : Type) (enc : TypeId × Value → H) : ReturnsInHanded Rows.spliceKeepsRow.assume Tryz.pinned.checked os 6 .any (Rows.spliceKeepsRow.pre enc Tryz.pinned.checked.prog Tryz.f6 (OpenSpec.ofChange Rows.spliceKeepsSpec)) (Rows.spliceKeepsSpec.post enc Tryz.pinned.checked.prog Tryz.f6 Rows.spliceKeepsRow.apart Rows.spliceKeepsRow.fresh Rows.spliceKeepsRow.handsOn Rows.spliceKeepsRow.again) := liftedKeeps os started H enc
theorem spliceKeeps_said : Rows.SpliceKeepsSaid :=
 OpenClaim.holds_of_wide 6 Tryz.f6 rfl rfl rfl rfl rfl rfl rfl ⟨rfl, rfl, rfl, rfl, rfl⟩ rfl rfl rfl rfl rfl fnn8 Tryz.func6 closed8 isi8 isw8 (fun os started H enc _ => lifted8 os started H enc)
theorem wf8 : Rows.spliceKeepsRow.wfByText (OpenSpec.ofChange Rows.spliceKeepsSpec) = true := by kernel_rfl
theorem mainIs8 : Tryz.pinned.checked.prog.mainIs = some (true, "51e7156952c8022ba1c94f7fe4150bfc37f8ca8132dcd09e1a40fddbfee6eb81".toList) := by kernel_rfl
theorem goes8 : false = Rows.spliceKeepsRow.goesBy Tryz.pinned.checked.prog := by kernel_rfl
theorem looks8 : true = Tryz.pinned.checked.prog.looks [] := by kernel_rfl
theorem stand8 : ∀ (j : Nat) t, Tryz.f6.params[j]? = some t → Tryz.pinned.checked.prog.wantsStandIn t = false := fun j t ht => by
 rw [Tryz.params6] at ht
 have hm : t ∈ [23, 52] := by simpa using Array.mem_of_getElem? ht
 have hall : ([23, 52].all fun u => !Tryz.prog.wantsStandIn u) = true := by kernel_rfl
 exact (show Tryz.prog.wantsStandIn t = false by simpa using List.all_eq_true.1 hall t hm)
theorem spliceKeeps_holds : Rows.SpliceKeepsCardSaid :=
 Claim7.holds_tied_plain_at .later [] [.data, .data, .data, .sentinel, .sentinel] true (true, "51e7156952c8022ba1c94f7fe4150bfc37f8ca8132dcd09e1a40fddbfee6eb81") true
   spliceKeeps_said (fun _ h => by cases h) wf8 (fun _ h => by cases h) spliceKeeps_row_tie rfl ⟨rfl, rfl⟩ mainIs8 rfl
   (fun f fn hf hfn => by
     obtain rfl : f = 6 := Option.some.inj (fnn8.symm.trans hf) |>.symm
     obtain rfl : fn = Tryz.f6 := (Option.some.inj (Tryz.func6.symm.trans hfn)).symm
     exact ⟨looks8, stand8⟩)
   goes8

end Go.Proofs.YtanaplokhjgfmaaGreatDoor
