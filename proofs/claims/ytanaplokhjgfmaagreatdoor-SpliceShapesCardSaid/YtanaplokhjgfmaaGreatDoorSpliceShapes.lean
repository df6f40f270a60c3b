/- For every three ints the law SpliceShapes returns true. Conditions: those of the row: the listed package-level variables hold what the text of the program lays, and the card ties that. -/
import Derived.Test.YtanaplokhjgfmaaGreatDoorEwOb
import Derived.Test.YtanaplokhjgfmaaGreatDoorEvDg
set_option linter.unusedVariables false
set_option linter.unusedSimpArgs false
set_option linter.unusedSectionVars false
set_option maxRecDepth 100000
namespace Go.Ev
open Go.Proofs Go.Shelf
theorem spliceShapes_calls (w : World) (hg : gtest (worldGl w) = true) (f l n : Int) :
   Calls Tryz.prog 5 #[.int .i64 f, .int .i64 l, .int .i64 n] w fun e w' => e = .returned (.bool true) ∧ RowKit.Below w.heap.size w w' :=
 law_calls (args := [.int .i64 f, .int .i64 l, .int .i64 n]) w (c5l OW_quiet ⟨0, .lf, worldGl w⟩ (fun H' h => OW_awake (H := ⟨0, .lf, worldGl w⟩) hg H' h) f l n (by show 0 ≤ 1000; decide) _ fun _ => rfl)
end Go.Ev
namespace Go.Proofs.YtanaplokhjgfmaaGreatDoor
open Go.ChangeShapes Go.WideShapes Go.ChangeAt Go.WideMaps Go.WideElems Go.RowKit Go.Ev
theorem liftedShapes (os : Os) (started : os.Started) (H : Type) (enc : TypeId × Value → H) :
   ReturnsInHanded {} Tryz.checked os 5 .any (fun w args => (Rows.spliceShapesSpec.pre enc Tryz.prog Tryz.f5 [] false w args ∧ laidMetH Tryz.prog laidL w) ∧ sizedMet enc Tryz.prog Tryz.f5 (OpenSpec.ofChange Rows.spliceShapesSpec) false w args)
     (Rows.spliceShapesSpec.post enc Tryz.prog Tryz.f5 false true false false) := by
 refine returnsInHanded_and_shaped (C := Tryz.checked) (X := fun w _ => laidMetH Tryz.prog laidL w) (fun _ _ _ hh h => h.of_heap hh) own started (by kernel_rfl) Tryz.func5
   (ChangeSpec.witness_shaped (enc := enc) (C := Tryz.checked) (os := os) (X := fun w _ => laidMetH Tryz.prog laidL w) false (World.laidAll Tryz.prog os laidL) #[.int .i64 0, .int .i64 0, .int .i64 0] 8 (World.laidAll_os _ _ _)
     (World.shaped_of_ZipB (by kernel_rfl) (by kernel_rfl)) (by kernel_rfl) (by kernel_rfl) (by kernel_rfl)
     (by rw [MakeChecks.laidMetH_plain _ _ _ (by kernel_rfl)]; exact laidMet_laidAll _ (by kernel_rfl) (by kernel_rfl))) ?_
 intro W base args ds gs before hval0 hW hsh hL
 have hval : ∀ (j : Nat) t v, Tryz.f5.params[j]? = some t → args[j]? = some v → Value.okWide Tryz.prog W .any base t v := hval0
 have hW' := hW
 obtain ⟨p, q, hA0, hV, rfl, hfz, hnd⟩ := hW
 have hA : DataW.TrodAll enc Tryz.prog W 0 (fun _ => true) true Tryz.f5.params.toList args.toList ds p := hA0
 rw [Tryz.params5] at hA hval
 obtain ⟨v0, v1, v2, d0, d1, d2, p0, p1, p2, rfl, rfl, rfl, h0, h1, h2⟩ := trodAll_three hA
 obtain ⟨rfl, rfl⟩ := trodVars_none hV
 obtain ⟨n0, rfl, rfl, rfl, hw0⟩ := open_int Tryz.underlying3 (hval 0 3 v0 rfl rfl) h0
 obtain ⟨n1, rfl, rfl, rfl, hw1⟩ := open_int Tryz.underlying3 (hval 1 3 v1 rfl rfl) h1
 obtain ⟨n2, rfl, rfl, rfl, hw2⟩ := open_int Tryz.underlying3 (hval 2 3 v2 rfl rfl) h2
 clear hA0 hval0
 simp only [List.append_nil, List.nil_append] at hW'
 refine (spliceShapes_calls W (pow_of_laid hL) n0 n1 n2).mono fun e W' ⟨he, hw⟩ => ?_
 subst he
 refine ⟨_, rfl, post_below (pa := [] ++ ([] ++ [])) (pv := []) hW' hw (fun _ _ _ => trodAll_mk1 (shut_bool Tryz.underlying4 _)) (fun sp hsp => ?_) (fun _ _ => rfl) (by simp) (ok_one (by kernel_rfl) rfl (okWide_bool_mk Tryz.underlying4 _))⟩
 exact trodAll_mk3 (shut_int Tryz.underlying3 hw0) (shut_int Tryz.underlying3 hw1) (shut_int Tryz.underlying3 hw2)
theorem closed9 : joinedFacts Tryz.pinned.checked.prog 5 Tryz.f5 Rows.spliceShapesSpec Rows.spliceShapesRow = true := by kernel_rfl
theorem isw9 : Tryz.f5.isWrapper Tryz.pinned.checked.prog Rows.spliceShapesRow.wrapper Rows.spliceShapesRow.mainSum := by unfold Func.isWrapper; first | (rw [if_pos (by decide +kernel)]; kernel_rfl) | (rw [if_neg (by decide +kernel)]; exact ⟨rfl, rfl⟩)
theorem isi9 : Tryz.f5.isInstance Tryz.pinned.checked.prog Rows.spliceShapesRow.origin Rows.spliceShapesRow.targs := (of_decide_eq_true (by kernel_rfl))
theorem fnn9 : Tryz.pinned.checked.prog.funcNamed Rows.spliceShapesRow.func = some 5 := by kernel_rfl
theorem lifted9 (os : Os) (started : os.Started) (H : Type) (enc : TypeId × Value → H) : ReturnsInHanded Rows.spliceShapesRow.assume Tryz.pinned.checked os 5 .any (Rows.spliceShapesRow.pre enc Tryz.pinned.checked.prog Tryz.f5 (OpenSpec.ofChange Rows.spliceShapesSpec)) (Rows.spliceShapesSpec.post enc Tryz.pinned.checked.prog Tryz.f5 Rows.spliceShapesRow.apart Rows.spliceShapesRow.fresh Rows.spliceShapesRow.handsOn Rows.spliceShapesRow.again) := liftedShapes os started H enc
theorem spliceShapes_said : Rows.SpliceShapesSaid :=
 OpenClaim.holds_of_wide 5 Tryz.f5 rfl rfl rfl rfl rfl rfl rfl ⟨rfl, rfl, rfl, rfl, rfl⟩ rfl rfl rfl rfl rfl fnn9 Tryz.func5 closed9 isi9 isw9 (fun os started H enc _ => lifted9 os started H enc)
theorem wf9 : Rows.spliceShapesRow.wfByText (OpenSpec.ofChange Rows.spliceShapesSpec) = true := by kernel_rfl
theorem mainIs9 : Tryz.pinned.checked.prog.mainIs = some (true, "51e7156952c8022ba1c94f7fe4150bfc37f8ca8132dcd09e1a40fddbfee6eb81".toList) := by kernel_rfl
theorem goes9 : false = Rows.spliceShapesRow.goesBy Tryz.pinned.checked.prog := by kernel_rfl
theorem looks9 : true = Tryz.pinned.checked.prog.looks [] := by kernel_rfl
theorem stand9 : ∀ (j : Nat) t, Tryz.f5.params[j]? = some t → Tryz.pinned.checked.prog.wantsStandIn t = false := fun j t ht => by
 rw [Tryz.params5] at ht
 have hm : t ∈ [3, 3, 3] := by simpa using Array.mem_of_getElem? ht
 have hall : ([3, 3, 3].all fun u => !Tryz.prog.wantsStandIn u) = true := by kernel_rfl
 exact (show Tryz.prog.wantsStandIn t = false by simpa using List.all_eq_true.1 hall t hm)
theorem spliceShapes_holds : Rows.SpliceShapesCardSaid :=
 Claim7.holds_tied_plain_at .later [] [.data, .data, .data, .sentinel, .sentinel] true (true, "51e7156952c8022ba1c94f7fe4150bfc37f8ca8132dcd09e1a40fddbfee6eb81") true
   spliceShapes_said (fun _ h => by cases h) wf9 (fun _ h => by cases h) spliceShapes_row_tie rfl ⟨rfl, rfl⟩ mainIs9 rfl
   (fun f fn hf hfn => by
     obtain rfl : f = 5 := Option.some.inj (fnn9.symm.trans hf) |>.symm
     obtain rfl : fn = Tryz.f5 := (Option.some.inj (Tryz.func5.symm.trans hfn)).symm
     exact ⟨looks9, stand9⟩)
   goes9

end Go.Proofs.YtanaplokhjgfmaaGreatDoor
