/- For every rule, every state and every tuck the law SpliceTucks returns true. Conditions: those of the row: the listed package-level variables hold what the text of the program lays, and the card ties that. -/
import Derived.Test.YtanaplokhjgfmaaGreatDoorEvOb
import Derived.Test.YtanaplokhjgfmaaGreatDoorEvEp
set_option linter.unusedVariables false
set_option linter.unusedSimpArgs false
set_option linter.unusedSectionVars false
set_option maxRecDepth 100000
namespace Go.Ev
open Go.Proofs Go.Shelf
theorem ky_of {w : World} {x : Value} {l : List Int} (h : IntsW w x l) (hc : ∃ a n c, x = .slice a n c ∧ n ≤ c) : Ky ⟨0, .lf, worldGl w⟩ (.v x) l :=
 ⟨h.sl, Old.v _, by obtain ⟨a, n, c, rfl, hc⟩ := hc; exact hc, fun b hb => by cases hb⟩
theorem spliceTucks_calls (w : World) (hg : gtest (worldGl w) = true) (a b c d e : Int) (x y : Value) (tk gp : List Int) (hx : IntsW w x tk) (hcx : ∃ a n c, x = .slice a n c ∧ n ≤ c) (hy : IntsW w y gp) (hcy : ∃ a n c, y = .slice a n c ∧ n ≤ c) (f g h : Int) :
   Calls Tryz.prog 3 #[.agg #[.int .i64 a, .int .i64 b, .int .i64 c, .int .i64 d, .int .i64 e], .agg #[x, y], .agg #[.int .i64 f, .int .i64 g, .int .i64 h]] w fun e w' => e = .returned (.bool true) ∧ RowKit.Below w.heap.size w w' :=
 law_calls (args := [.agg #[.int .i64 a, .int .i64 b, .int .i64 c, .int .i64 d, .int .i64 e], .agg #[x, y], .agg #[.int .i64 f, .int .i64 g, .int .i64 h]]) w (c3l OW_quiet ⟨0, .lf, worldGl w⟩ (fun H' h => OW_awake (H := ⟨0, .lf, worldGl w⟩) hg H' h) ⟨a, b, c, d, e⟩ ⟨f, g, h⟩ _ _ _ x y tk gp rfl rfl rfl (ky_of hx hcx) (ky_of hy hcy) (by show 0 ≤ 1000; decide) _ fun _ => rfl)
end Go.Ev
namespace Go.Proofs.YtanaplokhjgfmaaGreatDoor
open Go.ChangeShapes Go.WideShapes Go.ChangeAt Go.WideMaps Go.WideElems Go.RowKit Go.Ev
theorem cells23x : Tryz.prog.cellsOf 23 = 5 := by kernel_rfl
theorem cells26x : Tryz.prog.cellsOf 26 = 2 := by kernel_rfl
theorem cells28x : Tryz.prog.cellsOf 28 = 3 := by kernel_rfl
theorem array5 {α : Type} {cs : Array α} (h : cs.size = 5) : ∃ c0 c1 c2 c3 c4, cs = #[c0, c1, c2, c3, c4] := by
 obtain ⟨l⟩ := cs
 match l, h with
 | [c0, c1, c2, c3, c4], _ => exact ⟨c0, c1, c2, c3, c4, rfl⟩
theorem open_rule {H : Type} {enc : TypeId × Value → H} {W : World} {v : Value} {d : DataW H} {ps : List MemPlace} (h : DataW.Trod enc Tryz.prog W 0 (fun _ => true) true 23 v d ps) {base : Nat} (hval : Value.okWide Tryz.prog W .any base 23 v) :
   ∃ a b c d e, v = .agg #[.int .i64 a, .int .i64 b, .int .i64 c, .int .i64 d, .int .i64 e] := by
 obtain ⟨cs, rfl, hsz⟩ := okWide_struct Tryz.underlying23 hval
 rw [cells23x] at hsz
 obtain ⟨c0, c1, c2, c3, c4, rfl⟩ := array5 hsz
 obtain ⟨fuel, hf⟩ := h
 have hf : DataW.trod enc Tryz.prog W 0 (fun _ => true) true fuel 23 [c0, c1, c2, c3, c4] = some (d, ps) := by simpa [Value.cells] using hf
 obtain ⟨xs, n, _, _, hl, hlen, hf⟩ := DataW.trod_struct Tryz.underlying23 hf
 match xs, hlen with
 | [y0, y1, y2, y3, y4], _ =>
   have h0 : DataW.trod enc Tryz.prog W 0 (fun _ => true) true n 3 [c0] = some y0 := by have := hf 0 _ rfl; have e := cells3; simpa [e] using this
   have h1 : DataW.trod enc Tryz.prog W 0 (fun _ => true) true n 3 [c1] = some y1 := by have := hf 1 _ rfl; have e := cells3; simpa [e] using this
   have h2 : DataW.trod enc Tryz.prog W 0 (fun _ => true) true n 3 [c2] = some y2 := by have := hf 2 _ rfl; have e := cells3; simpa [e] using this
   have h3 : DataW.trod enc Tryz.prog W 0 (fun _ => true) true n 3 [c3] = some y3 := by have := hf 3 _ rfl; have e := cells3; simpa [e] using this
   have h4 : DataW.trod enc Tryz.prog W 0 (fun _ => true) true n 3 [c4] = some y4 := by have := hf 4 _ rfl; have e := cells3; simpa [e] using this
   obtain ⟨z0, e0, _, _⟩ := DataW.trod_int Tryz.underlying3 h0
   obtain ⟨z1, e1, _, _⟩ := DataW.trod_int Tryz.underlying3 h1
   obtain ⟨z2, e2, _, _⟩ := DataW.trod_int Tryz.underlying3 h2
   obtain ⟨z3, e3, _, _⟩ := DataW.trod_int Tryz.underlying3 h3
   obtain ⟨z4, e4, _, _⟩ := DataW.trod_int Tryz.underlying3 h4
   simp at e0 e1 e2 e3 e4
   subst e0 e1 e2 e3 e4
   exact ⟨z0, z1, z2, z3, z4, rfl⟩
theorem open_tuck {H : Type} {enc : TypeId × Value → H} {W : World} {v : Value} {d : DataW H} {ps : List MemPlace} (h : DataW.Trod enc Tryz.prog W 0 (fun _ => true) true 28 v d ps) {base : Nat} (hval : Value.okWide Tryz.prog W .any base 28 v) :
   ∃ a b c, v = .agg #[.int .i64 a, .int .i64 b, .int .i64 c] := by
 obtain ⟨cs, rfl, hsz⟩ := okWide_struct Tryz.underlying28 hval
 rw [cells28x] at hsz
 obtain ⟨c0, c1, c2, rfl⟩ := Go.Joins.array3 hsz
 obtain ⟨fuel, hf⟩ := h
 have hf : DataW.trod enc Tryz.prog W 0 (fun _ => true) true fuel 28 [c0, c1, c2] = some (d, ps) := by simpa [Value.cells] using hf
 obtain ⟨xs, n, _, _, hl, hlen, hf⟩ := DataW.trod_struct Tryz.underlying28 hf
 match xs, hlen with
 | [y0, y1, y2], _ =>
   have h0 : DataW.trod enc Tryz.prog W 0 (fun _ => true) true n 3 [c0] = some y0 := by have := hf 0 _ rfl; have e := cells3; simpa [e] using this
   have h1 : DataW.trod enc Tryz.prog W 0 (fun _ => true) true n 3 [c1] = some y1 := by have := hf 1 _ rfl; have e := cells3; simpa [e] using this
   have h2 : DataW.trod enc Tryz.prog W 0 (fun _ => true) true n 3 [c2] = some y2 := by have := hf 2 _ rfl; have e := cells3; simpa [e] using this
   obtain ⟨z0, e0, _, _⟩ := DataW.trod_int Tryz.underlying3 h0
   obtain ⟨z1, e1, _, _⟩ := DataW.trod_int Tryz.underlying3 h1
   obtain ⟨z2, e2, _, _⟩ := DataW.trod_int Tryz.underlying3 h2
   simp at e0 e1 e2
   subst e0 e1 e2
   exact ⟨z0, z1, z2, rfl⟩
theorem open_state {H : Type} {enc : TypeId × Value → H} {W : World} {v : Value} {d : DataW H} {ps : List MemPlace} (h : DataW.Trod enc Tryz.prog W 0 (fun _ => true) true 26 v d ps) {base : Nat} (hval : Value.okWide Tryz.prog W .any base 26 v) :
   ∃ x y tk gp, v = .agg #[x, y] ∧ IntsW W x tk ∧ (∃ a n c, x = .slice a n c ∧ n ≤ c) ∧ IntsW W y gp ∧ (∃ a n c, y = .slice a n c ∧ n ≤ c) := by
 obtain ⟨cs, rfl, hsz⟩ := okWide_struct Tryz.underlying26 hval
 rw [cells26x] at hsz
 obtain ⟨c0, c1, rfl⟩ := Go.Joins.array2 hsz
 obtain ⟨fuel, hf⟩ := h
 have hf : DataW.trod enc Tryz.prog W 0 (fun _ => true) true fuel 26 [c0, c1] = some (d, ps) := by simpa [Value.cells] using hf
 obtain ⟨y0, y1, n, _, _, h0, h1⟩ := trod_struct2 Tryz.underlying26 hf
 simp only [cells24x] at h0 h1
 obtain ⟨tk, hx, hcx⟩ := slice_of (v := c0) (by simpa using h0)
 obtain ⟨gp, hy, hcy⟩ := slice_of (v := c1) (by simpa using h1)
 exact ⟨c0, c1, tk, gp, rfl, hx, hcx, hy, hcy⟩
theorem liftedTucks (os : Os) (started : os.Started) (H : Type) (enc : TypeId × Value → H) :
   ReturnsInHanded {} Tryz.checked os 3 .any (fun w args => (Rows.spliceTucksSpec.pre enc Tryz.prog Tryz.f3 [] false w args ∧ laidMetH Tryz.prog laidL w) ∧ sizedMet enc Tryz.prog Tryz.f3 (OpenSpec.ofChange Rows.spliceTucksSpec) false w args)
     (Rows.spliceTucksSpec.post enc Tryz.prog Tryz.f3 false true false false) := by
 refine returnsInHanded_and_shaped (C := Tryz.checked) (X := fun w _ => laidMetH Tryz.prog laidL w) (fun _ _ _ hh h => h.of_heap hh) own started (by kernel_rfl) Tryz.func3
   (ChangeSpec.witness_shaped (enc := enc) (C := Tryz.checked) (os := os) (X := fun w _ => laidMetH Tryz.prog laidL w) false (World.laidAll Tryz.prog os laidL) #[.agg #[.int .i64 0, .int .i64 0, .int .i64 0, .int .i64 0, .int .i64 0], .agg #[.slice none 0 0, .slice none 0 0], .agg #[.int .i64 0, .int .i64 0, .int .i64 0]] 8 (World.laidAll_os _ _ _)
     (World.shaped_of_ZipB (by kernel_rfl) (by kernel_rfl)) (by kernel_rfl) (by kernel_rfl) (by kernel_rfl)
     (by rw [MakeChecks.laidMetH_plain _ _ _ (by kernel_rfl)]; exact laidMet_laidAll _ (by kernel_rfl) (by kernel_rfl))) ?_
 intro W base args ds gs before hval0 hW hsh hL
 have hval : ∀ (j : Nat) t v, Tryz.f3.params[j]? = some t → args[j]? = some v → Value.okWide Tryz.prog W .any base t v := hval0
 have hW' := hW
 obtain ⟨p, q, hA0, hV, rfl, hfz, hnd⟩ := hW
 have hA : DataW.TrodAll enc Tryz.prog W 0 (fun _ => true) true Tryz.f3.params.toList args.toList ds p := hA0
 rw [Tryz.params3] at hA hval
 obtain ⟨v0, v1, v2, d0, d1, d2, p0, p1, p2, rfl, rfl, rfl, h0, h1, h2⟩ := trodAll_three hA
 obtain ⟨rfl, rfl⟩ := trodVars_none hV
 obtain ⟨a, b, c, d, e, rfl⟩ := open_rule h0 (hval 0 23 v0 rfl rfl)
 obtain ⟨x, y, tk, gp, rfl, hx, hcx, hy, hcy⟩ := open_state h1 (hval 1 26 v1 rfl rfl)
 obtain ⟨f, g, h, rfl⟩ := open_tuck h2 (hval 2 28 v2 rfl rfl)
 clear hA0 hval0
 simp only [List.append_nil, List.nil_append] at hW'
 have hlt : ∀ z ∈ p0 ++ (p1 ++ p2), z.block < W.heap.size := fun z hz => hW'.lt z (by simpa using hz)
 have hlt0 : ∀ z ∈ p0, z.block < W.heap.size := fun z hz => hlt z (by simp [hz])
 have hlt1 : ∀ z ∈ p1, z.block < W.heap.size := fun z hz => hlt z (by simp [hz])
 have hlt2 : ∀ z ∈ p2, z.block < W.heap.size := fun z hz => hlt z (by simp [hz])
 refine (spliceTucks_calls W (pow_of_laid hL) a b c d e x y tk gp hx hcx hy hcy f g h).mono fun e W' ⟨he, hw⟩ => ?_
 subst he
 refine ⟨_, rfl, post_below (pa := p0 ++ (p1 ++ p2)) (pv := []) hW' hw (fun _ _ _ => trodAll_mk1 (shut_bool Tryz.underlying4 _)) (fun sp hsp => ?_) (fun _ _ => rfl) (by simp) (ok_one (by kernel_rfl) rfl (okWide_bool_mk Tryz.underlying4 _))⟩
 exact trodAll_mk3
   (Trod_stays laidOut (by kernel_rfl) (of_decide_eq_true (by kernel_rfl)) h0 (fun z hz => hw.same (hlt0 z hz)) (fun z hz => hsp z (by simp [hz])))
   (Trod_stays laidOut (by kernel_rfl) (of_decide_eq_true (by kernel_rfl)) h1 (fun z hz => hw.same (hlt1 z hz)) (fun z hz => hsp z (by simp [hz])))
   (Trod_stays laidOut (by kernel_rfl) (of_decide_eq_true (by kernel_rfl)) h2 (fun z hz => hw.same (hlt2 z hz)) (fun z hz => hsp z (by simp [hz])))
theorem closed7 : joinedFacts Tryz.pinned.checked.prog 3 Tryz.f3 Rows.spliceTucksSpec Rows.spliceTucksRow = true := by kernel_rfl
theorem isw7 : Tryz.f3.isWrapper Tryz.pinned.checked.prog Rows.spliceTucksRow.wrapper Rows.spliceTucksRow.mainSum := by unfold Func.isWrapper; first | (rw [if_pos (by decide +kernel)]; kernel_rfl) | (rw [if_neg (by decide +kernel)]; exact ⟨rfl, rfl⟩)
theorem isi7 : Tryz.f3.isInstance Tryz.pinned.checked.prog Rows.spliceTucksRow.origin Rows.spliceTucksRow.targs := (of_decide_eq_true (by kernel_rfl))
theorem fnn7 : Tryz.pinned.checked.prog.funcNamed Rows.spliceTucksRow.func = some 3 := by kernel_rfl
theorem lifted7 (os : Os) (started : os.Started) (H : Type) (enc : TypeId × Value → H) : ReturnsInHanded Rows.spliceTucksRow.assume Tryz.pinned.checked os 3 .any (Rows.spliceTucksRow.pre enc Tryz.pinned.checked.prog Tryz.f3 (OpenSpec.ofChange Rows.spliceTucksSpec)) (Rows.spliceTucksSpec.post enc Tryz.pinned.checked.prog Tryz.f3 Rows.spliceTucksRow.apart Rows.spliceTucksRow.fresh Rows.spliceTucksRow.handsOn Rows.spliceTucksRow.again) := liftedTucks os started H enc
theorem spliceTucks_said : Rows.SpliceTucksSaid :=
 OpenClaim.holds_of_wide 3 Tryz.f3 rfl rfl rfl rfl rfl rfl rfl ⟨rfl, rfl, rfl, rfl, rfl⟩ rfl rfl rfl rfl rfl fnn7 Tryz.func3 closed7 isi7 isw7 (fun os started H enc _ => lifted7 os started H enc)
theorem wf7 : Rows.spliceTucksRow.wfByText (OpenSpec.ofChange Rows.spliceTucksSpec) = true := by kernel_rfl
theorem mainIs7 : Tryz.pinned.checked.prog.mainIs = some (true, "51e7156952c8022ba1c94f7fe4150bfc37f8ca8132dcd09e1a40fddbfee6eb81".toList) := by kernel_rfl
theorem goes7 : false = Rows.spliceTucksRow.goesBy Tryz.pinned.checked.prog := by kernel_rfl
theorem looks7 : true = Tryz.pinned.checked.prog.looks [] := by kernel_rfl
theorem stand7 : ∀ (j : Nat) t, Tryz.f3.params[j]? = some t → Tryz.pinned.checked.prog.wantsStandIn t = false := fun j t ht => by
 rw [Tryz.params3] at ht
 have hm : t ∈ [23, 26, 28] := by simpa using Array.mem_of_getElem? ht
 have hall : ([23, 26, 28].all fun u => !Tryz.prog.wantsStandIn u) = true := by kernel_rfl
 exact (show Tryz.prog.wantsStandIn t = false by simpa using List.all_eq_true.1 hall t hm)
theorem spliceTucks_holds : Rows.SpliceTucksCardSaid :=
 Claim7.holds_tied_plain_at .later [] [.data, .data, .data, .sentinel, .sentinel] true (true, "51e7156952c8022ba1c94f7fe4150bfc37f8ca8132dcd09e1a40fddbfee6eb81") true
   spliceTucks_said (fun _ h => by cases h) wf7 (fun _ h => by cases h) spliceTucks_row_tie rfl ⟨rfl, rfl⟩ mainIs7 rfl
   (fun f fn hf hfn => by
     obtain rfl : f = 3 := Option.some.inj (fnn7.symm.trans hf) |>.symm
     obtain rfl : fn = Tryz.f3 := (Option.some.inj (Tryz.func3.symm.trans hfn)).symm
     exact ⟨looks7, stand7⟩)
   goes7

end Go.Proofs.YtanaplokhjgfmaaGreatDoor
