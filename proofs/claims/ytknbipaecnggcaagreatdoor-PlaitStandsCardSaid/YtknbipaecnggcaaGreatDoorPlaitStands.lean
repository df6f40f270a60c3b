/- For every list of ints and every move the law PlaitStands returns true, and the list and the move read afterwards as they did. Conditions: those of the row: the listed package-level variables hold what the text of the program lays, and the card ties that. -/
import Derived.Test.YtknbipaecnggcaaGreatDoorExOb
import Derived.Test.YtknbipaecnggcaaGreatDoorEvRj
set_option linter.unusedVariables false
set_option linter.unusedSimpArgs false
set_option linter.unusedSectionVars false
set_option maxRecDepth 100000
namespace Go.Ev
open Go.Proofs Go.Shelf
theorem plaitStands_calls (w : World) (a b : Int) (y : Value) (l : List Int) (hy : IntsW w y l) :
   Calls Tryz.prog 3 #[y, .agg #[.int .i64 a, .int .i64 b]] w fun e w' => e = .returned (.bool true) ∧ RowKit.Below w.heap.size w w' :=
 law_calls (args := [y, .agg #[.int .i64 a, .int .i64 b]]) w (c3l OW_quiet ⟨0, .lf, worldGl w⟩ (fun H' _ => OW_awake H') y (.v (.agg #[.int .i64 a, .int .i64 b])) l a b rfl hy.sl (by show 0 ≤ 1000; decide) _ fun _ => rfl)
end Go.Ev
namespace Go.Proofs.YtknbipaecnggcaaGreatDoor
open Go.ChangeShapes Go.WideShapes Go.ChangeAt Go.WideMaps Go.WideElems Go.RowKit Go.Ev
theorem liftedStands (os : Os) (started : os.Started) (H : Type) (enc : TypeId × Value → H) :
   ReturnsInHanded {} Tryz.checked os 3 .any (fun w args => (Rows.plaitStandsSpec.pre enc Tryz.prog Tryz.f3 [] false w args ∧ laidMetH Tryz.prog laidL w) ∧ sizedMet enc Tryz.prog Tryz.f3 (OpenSpec.ofChange Rows.plaitStandsSpec) false w args)
     (Rows.plaitStandsSpec.post enc Tryz.prog Tryz.f3 false true false false) := by
 refine returnsInHanded_and_shaped (C := Tryz.checked) (X := fun w _ => laidMetH Tryz.prog laidL w) (fun _ _ _ hh h => h.of_heap hh) own started (by kernel_rfl) Tryz.func3
   (ChangeSpec.witness_shaped (enc := enc) (C := Tryz.checked) (os := os) (X := fun w _ => laidMetH Tryz.prog laidL w) false (World.laidAll Tryz.prog os laidL) #[.slice none 0 0, .agg #[.int .i64 0, .int .i64 0]] 8 (World.laidAll_os _ _ _)
     (World.shaped_of_ZipB (by kernel_rfl) (by kernel_rfl)) (by kernel_rfl) (by kernel_rfl) (by kernel_rfl)
     (by rw [MakeChecks.laidMetH_plain _ _ _ (by kernel_rfl)]; exact laidMet_laidAll _ (by kernel_rfl) (by kernel_rfl))) ?_
 intro W base args ds gs before hval0 hW hsh hL
 have hval : ∀ (j : Nat) t v, Tryz.f3.params[j]? = some t → args[j]? = some v → Value.okWide Tryz.prog W .any base t v := hval0
 have hW' := hW
 obtain ⟨p, q, hA0, hV, rfl, hfz, hnd⟩ := hW
 have hA : DataW.TrodAll enc Tryz.prog W 0 (fun _ => true) true Tryz.f3.params.toList args.toList ds p := hA0
 rw [Tryz.params3] at hA hval
 obtain ⟨v0, v1, d0, d1, p0, p1, rfl, rfl, rfl, h0, h1⟩ := trodAll_two hA
 obtain ⟨rfl, rfl⟩ := trodVars_none hV
 obtain ⟨l1, hl1, hc1⟩ := ints_of h0 (hval 0 22 v0 rfl rfl)
 obtain ⟨a, b, rfl⟩ := open_move h1 (hval 1 24 v1 rfl rfl)
 clear hA0 hval0
 simp only [List.append_nil, List.nil_append] at hW'
 have hlt : ∀ x ∈ p0 ++ p1, x.block < W.heap.size := fun x hx => hW'.lt x (by simpa using hx)
 have hlt0 : ∀ x ∈ p0, x.block < W.heap.size := fun x hx => hlt x (by simp [hx])
 have hlt1 : ∀ x ∈ p1, x.block < W.heap.size := fun x hx => hlt x (by simp [hx])
 refine (plaitStands_calls W a b v0 l1 hl1).mono fun e W' ⟨he, hw⟩ => ?_
 subst he
 refine ⟨_, rfl, post_below (pa := p0 ++ p1) (pv := []) hW' hw (fun _ _ _ => trodAll_mk1 (shut_bool Tryz.underlying4 _)) (fun sp hsp => ?_) (fun _ _ => rfl) (by simp) (ok_one (by kernel_rfl) rfl (okWide_bool_mk Tryz.underlying4 _))⟩
 exact trodAll_mk2
   (Trod_stays laidOut (by kernel_rfl) (of_decide_eq_true (by kernel_rfl)) h0 (fun x hx => hw.same (hlt0 x hx)) (fun x hx => hsp x (by simp [hx])))
   (Trod_stays laidOut (by kernel_rfl) (of_decide_eq_true (by kernel_rfl)) h1 (fun x hx => hw.same (hlt1 x hx)) (fun x hx => hsp x (by simp [hx])))
theorem closed3 : joinedFacts Tryz.pinned.checked.prog 3 Tryz.f3 Rows.plaitStandsSpec Rows.plaitStandsRow = true := by kernel_rfl
theorem isw3 : Tryz.f3.isWrapper Tryz.pinned.checked.prog Rows.plaitStandsRow.wrapper Rows.plaitStandsRow.mainSum := by unfold Func.isWrapper; first | (rw [if_pos (by decide +kernel)]; kernel_rfl) | (rw [if_neg (by decide +kernel)]; exact ⟨rfl, rfl⟩)
theorem isi3 : Tryz.f3.isInstance Tryz.pinned.checked.prog Rows.plaitStandsRow.origin Rows.plaitStandsRow.targs := (of_decide_eq_true (by kernel_rfl))
theorem fnn3 : Tryz.pinned.checked.prog.funcNamed Rows.plaitStandsRow.func = some 3 := by kernel_rfl
theorem lifted3 (os : Os) (started : os.Started) (H : Type) (enc : TypeId × Value → H) : ReturnsInHanded Rows.plaitStandsRow.assume Tryz.pinned.checked os 3 .any (Rows.plaitStandsRow.pre enc Tryz.pinned.checked.prog Tryz.f3 (OpenSpec.ofChange Rows.plaitStandsSpec)) (Rows.plaitStandsSpec.post enc Tryz.pinned.checked.prog Tryz.f3 Rows.plaitStandsRow.apart Rows.plaitStandsRow.fresh Rows.plaitStandsRow.handsOn Rows.plaitStandsRow.again) := liftedStands os started H enc
theorem plaitStands_said : Rows.PlaitStandsSaid :=
 OpenClaim.holds_of_wide 3 Tryz.f3 rfl rfl rfl rfl rfl rfl rfl ⟨rfl, rfl, rfl, rfl, rfl⟩ rfl rfl rfl rfl rfl fnn3 Tryz.func3 closed3 isi3 isw3 (fun os started H enc _ => lifted3 os started H enc)
theorem wf3 : Rows.plaitStandsRow.wfByText (OpenSpec.ofChange Rows.plaitStandsSpec) = true := by kernel_rfl
theorem mainIs3 : Tryz.pinned.checked.prog.mainIs = some (true, "c51a5d364a83b54a69666d6fa81d88cfdf55dab161d75abdc789b8698b542bb7".toList) := by kernel_rfl
theorem goes3 : false = Rows.plaitStandsRow.goesBy Tryz.pinned.checked.prog := by kernel_rfl
theorem looks3 : false = Tryz.pinned.checked.prog.looks [] := by kernel_rfl
theorem stand3 : ∀ (j : Nat) t, Tryz.f3.params[j]? = some t → Tryz.pinned.checked.prog.wantsStandIn t = false := fun j t ht => by
 rw [Tryz.params3] at ht
 have hm : t ∈ [22, 24] := by simpa using Array.mem_of_getElem? ht
 have hall : ([22, 24].all fun u => !Tryz.prog.wantsStandIn u) = true := by kernel_rfl
 exact (show Tryz.prog.wantsStandIn t = false by simpa using List.all_eq_true.1 hall t hm)
theorem plaitStands_holds : Rows.PlaitStandsCardSaid :=
 Claim7.holds_tied_plain_at .later [] [.data, .data, .data] true (true, "c51a5d364a83b54a69666d6fa81d88cfdf55dab161d75abdc789b8698b542bb7") false
   plaitStands_said (fun _ h => by cases h) wf3 (fun _ h => by cases h) plaitStands_row_tie rfl ⟨rfl, rfl⟩ mainIs3 rfl
   (fun f fn hf hfn => by
     obtain rfl : f = 3 := Option.some.inj (fnn3.symm.trans hf) |>.symm
     obtain rfl : fn = Tryz.f3 := (Option.some.inj (Tryz.func3.symm.trans hfn)).symm
     exact ⟨looks3, stand3⟩)
   goes3

end Go.Proofs.YtknbipaecnggcaaGreatDoor
