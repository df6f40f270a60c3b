/- For every machine and every list of ints the law MachineRooms returns true, and the machine and the list read afterwards as they did. Conditions: those of the row: the listed package-level variables hold what the text of the program lays, and the card ties that. -/
import Derived.Test.YtcbmpnddhnkfnaaGreatDoorExOb
import Derived.Test.YtcbmpnddhnkfnaaGreatDoorEvXo
set_option linter.unusedVariables false
set_option linter.unusedSimpArgs false
set_option linter.unusedSectionVars false
set_option maxRecDepth 100000
namespace Go.Ev
open Go.Proofs Go.Shelf
theorem machineRooms_calls (w : World) (hg : gtest (worldGl w) = true) (r : Bool) (g t : Int) (s y : Value) (sw l : List Int) (hs : IntsW w s sw) (hy : IntsW w y l) (hyc : ∃ a n c, y = .slice a n c ∧ n ≤ c) :
   Calls Tryz.prog 10 #[.agg #[.bool r, .int .i64 g, .int .i64 t, s], y] w fun e w' => e = .returned (.bool true) ∧ RowKit.Below w.heap.size w w' :=
 law_calls (args := [.agg #[.bool r, .int .i64 g, .int .i64 t, s], y]) w (c10l OW_quiet ⟨0, .lf, worldGl w⟩ (fun H' h => OW_awake (H := ⟨0, .lf, worldGl w⟩) hg H' h) (.v (.agg #[.bool r, .int .i64 g, .int .i64 t, s])) s y ⟨r, g, t, sw⟩ l rfl hs.sl hy.sl (by obtain ⟨a, n, c, rfl, h⟩ := hyc; exact h) (by show 0 ≤ 1000; decide) _ fun _ => rfl)
end Go.Ev
namespace Go.Proofs.YtcbmpnddhnkfnaaGreatDoor
open Go.ChangeShapes Go.WideShapes Go.ChangeAt Go.WideMaps Go.WideElems Go.RowKit Go.Ev
theorem liftedRooms (os : Os) (started : os.Started) (H : Type) (enc : TypeId × Value → H) :
   ReturnsInHanded {} Tryz.checked os 10 .any (fun w args => (Rows.machineRoomsSpec.pre enc Tryz.prog Tryz.f10 [] false w args ∧ laidMetH Tryz.prog laidL w) ∧ sizedMet enc Tryz.prog Tryz.f10 (OpenSpec.ofChange Rows.machineRoomsSpec) false w args)
     (Rows.machineRoomsSpec.post enc Tryz.prog Tryz.f10 false true false false) := by
 refine returnsInHanded_and_shaped (C := Tryz.checked) (X := fun w _ => laidMetH Tryz.prog laidL w) (fun _ _ _ hh h => h.of_heap hh) own started (by kernel_rfl) Tryz.func10
   (ChangeSpec.witness_shaped (enc := enc) (C := Tryz.checked) (os := os) (X := fun w _ => laidMetH Tryz.prog laidL w) false (World.laidAll Tryz.prog os laidL) #[.agg #[.bool false, .int .i64 0, .int .i64 0, .slice none 0 0], .slice none 0 0] 8 (World.laidAll_os _ _ _)
     (World.shaped_of_ZipB (by kernel_rfl) (by kernel_rfl)) (by kernel_rfl) (by kernel_rfl) (by kernel_rfl)
     (by rw [MakeChecks.laidMetH_plain _ _ _ (by kernel_rfl)]; exact laidMet_laidAll _ (by kernel_rfl) (by kernel_rfl))) ?_
 intro W base args ds gs before hval0 hW hsh hL
 have hval : ∀ (j : Nat) t v, Tryz.f10.params[j]? = some t → args[j]? = some v → Value.okWide Tryz.prog W .any base t v := hval0
 have hW' := hW
 obtain ⟨p, q, hA0, hV, rfl, hfz, hnd⟩ := hW
 have hA : DataW.TrodAll enc Tryz.prog W 0 (fun _ => true) true Tryz.f10.params.toList args.toList ds p := hA0
 rw [Tryz.params10] at hA hval
 obtain ⟨v0, v1, d0, d1, p0, p1, rfl, rfl, rfl, h0, h1⟩ := trodAll_two hA
 obtain ⟨rfl, rfl⟩ := trodVars_none hV
 obtain ⟨r, g, t, s, sw, rfl, hs, _⟩ := open_machine h0 (hval 0 24 v0 rfl rfl)
 obtain ⟨l1, hl1, hc1⟩ := ints_of h1 (hval 1 22 v1 rfl rfl)
 clear hA0 hval0
 simp only [List.append_nil, List.nil_append] at hW'
 have hlt : ∀ x ∈ p0 ++ p1, x.block < W.heap.size := fun x hx => hW'.lt x (by simpa using hx)
 have hlt0 : ∀ x ∈ p0, x.block < W.heap.size := fun x hx => hlt x (by simp [hx])
 have hlt1 : ∀ x ∈ p1, x.block < W.heap.size := fun x hx => hlt x (by simp [hx])
 refine (machineRooms_calls W (pow_of_laid hL hsh) r g t s v1 sw l1 hs hl1 hc1).mono fun e W' ⟨he, hw⟩ => ?_
 subst he
 refine ⟨_, rfl, post_below (pa := p0 ++ p1) (pv := []) hW' hw (fun _ _ _ => trodAll_mk1 (shut_bool Tryz.underlying4 _)) (fun sp hsp => ?_) (fun _ _ => rfl) (by simp) (ok_one (by kernel_rfl) rfl (okWide_bool_mk Tryz.underlying4 _))⟩
 exact trodAll_mk2
   (Trod_stays laidOut (by kernel_rfl) (of_decide_eq_true (by kernel_rfl)) h0 (fun x hx => hw.same (hlt0 x hx)) (fun x hx => hsp x (by simp [hx])))
   (Trod_stays laidOut (by kernel_rfl) (of_decide_eq_true (by kernel_rfl)) h1 (fun x hx => hw.same (hlt1 x hx)) (fun x hx => hsp x (by simp [hx])))
theorem closed10 : joinedFacts Tryz.pinned.checked.prog 10 Tryz.f10 Rows.machineRoomsSpec Rows.machineRoomsRow = true := by kernel_rfl
theorem isw10 : Tryz.f10.isWrapper Tryz.pinned.checked.prog Rows.machineRoomsRow.wrapper Rows.machineRoomsRow.mainSum := by unfold Func.isWrapper; first | (rw [if_pos (by decide +kernel)]; kernel_rfl) | (rw [if_neg (by decide +kernel)]; exact ⟨rfl, rfl⟩)
theorem isi10 : Tryz.f10.isInstance Tryz.pinned.checked.prog Rows.machineRoomsRow.origin Rows.machineRoomsRow.targs := (of_decide_eq_true (by kernel_rfl))
theorem fnn10 : Tryz.pinned.checked.prog.funcNamed Rows.machineRoomsRow.func = some 10 := by kernel_rfl
theorem lifted10 (os : Os) (started : os.Started) (H : Type) (enc : TypeId × Value → H) : ReturnsInHanded Rows.machineRoomsRow.assume Tryz.pinned.checked os 10 .any (Rows.machineRoomsRow.pre enc Tryz.pinned.checked.prog Tryz.f10 (OpenSpec.ofChange Rows.machineRoomsSpec)) (Rows.machineRoomsSpec.post enc Tryz.pinned.checked.prog Tryz.f10 Rows.machineRoomsRow.apart Rows.machineRoomsRow.fresh Rows.machineRoomsRow.handsOn Rows.machineRoomsRow.again) := liftedRooms os started H enc
theorem machineRooms_said : Rows.MachineRoomsSaid :=
 OpenClaim.holds_of_wide 10 Tryz.f10 rfl rfl rfl rfl rfl rfl rfl ⟨rfl, rfl, rfl, rfl, rfl⟩ rfl rfl rfl rfl rfl fnn10 Tryz.func10 closed10 isi10 isw10 (fun os started H enc _ => lifted10 os started H enc)
theorem wf10 : Rows.machineRoomsRow.wfByText (OpenSpec.ofChange Rows.machineRoomsSpec) = true := by kernel_rfl
theorem mainIs10 : Tryz.pinned.checked.prog.mainIs = some (true, "281cacaf51584f96e88fbb2a3af6950107cc09ef8c293d76f45ce3bc8c235e35".toList) := by kernel_rfl
theorem goes10 : false = Rows.machineRoomsRow.goesBy Tryz.pinned.checked.prog := by kernel_rfl
theorem looks10 : true = Tryz.pinned.checked.prog.looks [] := by kernel_rfl
theorem stand10 : ∀ (j : Nat) t, Tryz.f10.params[j]? = some t → Tryz.pinned.checked.prog.wantsStandIn t = false := fun j t ht => by
 rw [Tryz.params10] at ht
 have hm : t ∈ [24, 22] := by simpa using Array.mem_of_getElem? ht
 have hall : ([24, 22].all fun u => !Tryz.prog.wantsStandIn u) = true := by kernel_rfl
 exact (show Tryz.prog.wantsStandIn t = false by simpa using List.all_eq_true.1 hall t hm)
theorem machineRooms_holds : Rows.MachineRoomsCardSaid :=
 Claim7.holds_tied_plain_at .later [] [.data, .data, .data, .data, .sentinel, .sentinel, .pinned] true (true, "281cacaf51584f96e88fbb2a3af6950107cc09ef8c293d76f45ce3bc8c235e35") true
   machineRooms_said (fun _ h => by cases h) wf10 (fun _ h => by cases h) machineRooms_row_tie rfl ⟨rfl, rfl⟩ mainIs10 rfl
   (fun f fn hf hfn => by
     obtain rfl : f = 10 := Option.some.inj (fnn10.symm.trans hf) |>.symm
     obtain rfl : fn = Tryz.f10 := (Option.some.inj (Tryz.func10.symm.trans hfn)).symm
     exact ⟨looks10, stand10⟩)
   goes10

end Go.Proofs.YtcbmpnddhnkfnaaGreatDoor
