/- For every machine the law MachinePerms returns true, and the machine reads afterwards as it did. Conditions: those of the row: the listed package-level variables hold what the text of the program lays, and the card ties that. -/
import Derived.Test.YthdgnapkfbjjeaaGreatDoorEwOb
import Derived.Test.YthdgnapkfbjjeaaGreatDoorEvPf
import Derived.Test.YthdgnapkfbjjeaaGreatDoorEvUk
set_option linter.unusedVariables false
set_option linter.unusedSimpArgs false
set_option linter.unusedSectionVars false
set_option maxRecDepth 100000
namespace Go.Ev
open Go.Proofs Go.Shelf
theorem machinePerms_calls (w : World) (hg : gtest (worldGl w) = true) (r : Bool) (g t : Int) (s : Value) (sw : List Int) (hs : IntsW w s sw) :
   Calls Tryz.prog 3 #[.agg #[.bool r, .int .i64 g, .int .i64 t, s]] w fun e w' => e = .returned (.bool true) ∧ RowKit.Below w.heap.size w w' :=
 law_callsP (args := [.agg #[.bool r, .int .i64 g, .int .i64 t, s]]) w (c3l OWP_quiet OWP_pers OWP_persR ⟨0, .lf, worldGl w⟩ (fun H' h => OWP_awake (H := ⟨0, .lf, worldGl w⟩) hg H' h) hg (.v (.agg #[.bool r, .int .i64 g, .int .i64 t, s])) (.v s) ⟨r, g, t, sw⟩ rfl hs.sl (Old.v _) (fun b hb => by cases hb) (by show 0 + 17179869184 < 2 ^ 39; decide) _ fun _ => rfl)
end Go.Ev
namespace Go.Proofs.YthdgnapkfbjjeaaGreatDoor
open Go.ChangeShapes Go.WideShapes Go.ChangeAt Go.WideMaps Go.WideElems Go.RowKit Go.Ev
theorem liftedPerms (os : Os) (started : os.Started) (H : Type) (enc : TypeId × Value → H) :
   ReturnsInHanded {} Tryz.checked os 3 .any (fun w args => (Rows.machinePermsSpec.pre enc Tryz.prog Tryz.f3 [] false w args ∧ laidMetH Tryz.prog laidL w) ∧ sizedMet enc Tryz.prog Tryz.f3 (OpenSpec.ofChange Rows.machinePermsSpec) false w args)
     (Rows.machinePermsSpec.post enc Tryz.prog Tryz.f3 false true false false) := by
 refine returnsInHanded_and_shaped (C := Tryz.checked) (X := fun w _ => laidMetH Tryz.prog laidL w) (fun _ _ _ hh h => h.of_heap hh) own started (by kernel_rfl) Tryz.func3
   (ChangeSpec.witness_shaped (enc := enc) (C := Tryz.checked) (os := os) (X := fun w _ => laidMetH Tryz.prog laidL w) false (World.laidAll Tryz.prog os laidL) #[.agg #[.bool false, .int .i64 0, .int .i64 0, .slice none 0 0]] 8 (World.laidAll_os _ _ _)
     (World.shaped_of_ZipB (by kernel_rfl) (by kernel_rfl)) (by kernel_rfl) (by kernel_rfl) (by kernel_rfl)
     (by rw [MakeChecks.laidMetH_plain _ _ _ (by kernel_rfl)]; exact laidMet_laidAll _ (by kernel_rfl) (by kernel_rfl))) ?_
 intro W base args ds gs before hval0 hW hsh hL
 have hval : ∀ (j : Nat) t v, Tryz.f3.params[j]? = some t → args[j]? = some v → Value.okWide Tryz.prog W .any base t v := hval0
 have hW' := hW
 obtain ⟨p, q, hA0, hV, rfl, hfz, hnd⟩ := hW
 have hA : DataW.TrodAll enc Tryz.prog W 0 (fun _ => true) true Tryz.f3.params.toList args.toList ds p := hA0
 rw [Tryz.params3] at hA hval
 obtain ⟨v0, d0, rfl, rfl, h0⟩ := trodAll_one hA
 obtain ⟨rfl, rfl⟩ := trodVars_none hV
 obtain ⟨r, g, t, s, sw, rfl, hs, _⟩ := open_machine h0 (hval 0 24 v0 rfl rfl)
 clear hA0 hval0
 simp only [List.append_nil, List.nil_append] at hW'
 have hlt0 : ∀ x ∈ p, x.block < W.heap.size := fun x hx => hW'.lt x (by simpa using hx)
 refine (machinePerms_calls W (pow_of_laid hL hsh) r g t s sw hs).mono fun e W' ⟨he, hw⟩ => ?_
 subst he
 refine ⟨_, rfl, post_below (pa := p) (pv := []) hW' hw (fun _ _ _ => trodAll_mk1 (shut_bool Tryz.underlying4 _)) (fun sp hsp => ?_) (fun _ _ => rfl) (by simp) (ok_one (by kernel_rfl) rfl (okWide_bool_mk Tryz.underlying4 _))⟩
 exact trodAll_mk1
   (Trod_stays laidOut (by kernel_rfl) (of_decide_eq_true (by kernel_rfl)) h0 (fun x hx => hw.same (hlt0 x hx)) (fun x hx => hsp x (by simp [hx])))
theorem closed3 : joinedFacts Tryz.pinned.checked.prog 3 Tryz.f3 Rows.machinePermsSpec Rows.machinePermsRow = true := by kernel_rfl
theorem isw3 : Tryz.f3.isWrapper Tryz.pinned.checked.prog Rows.machinePermsRow.wrapper Rows.machinePermsRow.mainSum := by unfold Func.isWrapper; first | (rw [if_pos (by decide +kernel)]; kernel_rfl) | (rw [if_neg (by decide +kernel)]; exact ⟨rfl, rfl⟩)
theorem isi3 : Tryz.f3.isInstance Tryz.pinned.checked.prog Rows.machinePermsRow.origin Rows.machinePermsRow.targs := (of_decide_eq_true (by kernel_rfl))
theorem fnn3 : Tryz.pinned.checked.prog.funcNamed Rows.machinePermsRow.func = some 3 := by kernel_rfl
theorem lifted3 (os : Os) (started : os.Started) (H : Type) (enc : TypeId × Value → H) : ReturnsInHanded Rows.machinePermsRow.assume Tryz.pinned.checked os 3 .any (Rows.machinePermsRow.pre enc Tryz.pinned.checked.prog Tryz.f3 (OpenSpec.ofChange Rows.machinePermsSpec)) (Rows.machinePermsSpec.post enc Tryz.pinned.checked.prog Tryz.f3 Rows.machinePermsRow.apart Rows.machinePermsRow.fresh Rows.machinePermsRow.handsOn Rows.machinePermsRow.again) := liftedPerms os started H enc
theorem machinePerms_said : Rows.MachinePermsSaid :=
 OpenClaim.holds_of_wide 3 Tryz.f3 rfl rfl rfl rfl rfl rfl rfl ⟨rfl, rfl, rfl, rfl, rfl⟩ rfl rfl rfl rfl rfl fnn3 Tryz.func3 closed3 isi3 isw3 (fun os started H enc _ => lifted3 os started H enc)
theorem wf3 : Rows.machinePermsRow.wfByText (OpenSpec.ofChange Rows.machinePermsSpec) = true := by kernel_rfl
theorem mainIs3 : Tryz.pinned.checked.prog.mainIs = some (true, "281cacaf51584f96e88fbb2a3af6950107cc09ef8c293d76f45ce3bc8c235e35".toList) := by kernel_rfl
theorem goes3 : false = Rows.machinePermsRow.goesBy Tryz.pinned.checked.prog := by kernel_rfl
theorem looks3 : true = Tryz.pinned.checked.prog.looks [] := by kernel_rfl
theorem stand3 : ∀ (j : Nat) t, Tryz.f3.params[j]? = some t → Tryz.pinned.checked.prog.wantsStandIn t = false := fun j t ht => by
 rw [Tryz.params3] at ht
 have hm : t ∈ [24] := by simpa using Array.mem_of_getElem? ht
 have hall : ([24].all fun u => !Tryz.prog.wantsStandIn u) = true := by kernel_rfl
 exact (show Tryz.prog.wantsStandIn t = false by simpa using List.all_eq_true.1 hall t hm)
theorem machinePerms_holds : Rows.MachinePermsCardSaid :=
 Claim7.holds_tied_plain_at .later [] [.data, .data, .data, .data, .sentinel, .sentinel, .pinned] true (true, "281cacaf51584f96e88fbb2a3af6950107cc09ef8c293d76f45ce3bc8c235e35") true
   machinePerms_said (fun _ h => by cases h) wf3 (fun _ h => by cases h) machinePerms_row_tie rfl ⟨rfl, rfl⟩ mainIs3 rfl
   (fun f fn hf hfn => by
     obtain rfl : f = 3 := Option.some.inj (fnn3.symm.trans hf) |>.symm
     obtain rfl : fn = Tryz.f3 := (Option.some.inj (Tryz.func3.symm.trans hfn)).symm
     exact ⟨looks3, stand3⟩)
   goes3

end Go.Proofs.YthdgnapkfbjjeaaGreatDoor
