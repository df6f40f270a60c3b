/- For every two lists of ints and every int the law PlaitTurns returns true, and the lists read afterwards as they did. Conditions: those of the row: the listed package-level variables hold what the text of the program lays, and the card ties that. -/
import Derived.Test.YtknbipaecnggcaaGreatDoorEvOb
import Derived.Test.YtknbipaecnggcaaGreatDoorEvOv
set_option linter.unusedVariables false
set_option linter.unusedSimpArgs false
set_option linter.unusedSectionVars false
set_option maxRecDepth 100000
namespace Go.Ev
open Go.Proofs Go.Shelf
theorem plaitTurns_calls (w : World) (y x : Value) (l l2 : List Int) (n : Int) (hy : IntsW w y l) (hx : IntsW w x l2) :
   Calls Tryz.prog 5 #[y, x, .int .i64 n] w fun e w' => e = .returned (.bool true) ∧ RowKit.Below w.heap.size w w' :=
 law_callsT (args := [y, x, .int .i64 n]) w (c5l OWT_quiet OWT_grows ⟨0, .lf, worldGl w⟩ (fun H' _ => OWT_awake H') y x l l2 n hy.sl hx.sl (by show 0 ≤ 1000; decide) _ fun _ => rfl)
end Go.Ev
namespace Go.Proofs.YtknbipaecnggcaaGreatDoor
open Go.ChangeShapes Go.WideShapes Go.ChangeAt Go.WideMaps Go.WideElems Go.RowKit Go.Ev
theorem liftedTurns (os : Os) (started : os.Started) (H : Type) (enc : TypeId × Value → H) :
   ReturnsInHanded {} Tryz.checked os 5 .any (fun w args => (Rows.plaitTurnsSpec.pre enc Tryz.prog Tryz.f5 [] false w args ∧ laidMetH Tryz.prog laidL w) ∧ sizedMet enc Tryz.prog Tryz.f5 (OpenSpec.ofChange Rows.plaitTurnsSpec) false w args)
     (Rows.plaitTurnsSpec.post enc Tryz.prog Tryz.f5 false true false false) := by
 refine returnsInHanded_and_shaped (C := Tryz.checked) (X := fun w _ => laidMetH Tryz.prog laidL w) (fun _ _ _ hh h => h.of_heap hh) own started (by kernel_rfl) Tryz.func5
   (ChangeSpec.witness_shaped (enc := enc) (C := Tryz.checked) (os := os) (X := fun w _ => laidMetH Tryz.prog laidL w) false (World.laidAll Tryz.prog os laidL) #[.slice none 0 0, .slice none 0 0, .int .i64 0] 8 (World.laidAll_os _ _ _)
     (World.shaped_of_ZipB (by kernel_rfl) (by kernel_rfl)) (by kernel_rfl) (by kernel_rfl) (by kernel_rfl)
     (by rw [MakeChecks.laidMetH_plain _ _ _ (by kernel_rfl)]; exact laidMet_laidAll _ (by kernel_rfl) (by kernel_rfl))) ?_
 intro W base args ds gs before hval0 hW hsh hL
 have hval : ∀ (j : Nat) t v, Tryz.f5.params[j]? = some t → args[j]? = some v → Value.okWide Tryz.prog W .any base t v := hval0
 have hW' := hW
 obtain ⟨p, q, hA0, hV, rfl, hfz, hnd⟩ := hW
 have hA : DataW.TrodAll enc Tryz.prog W 0 (fun _ => true) true Tryz.f5.params.toList args.toList ds p := hA0
 rw [Tryz.params5] at hA hval
 obtain ⟨v0, v1, v2, d0, d1, d2, p0, p1, p2, rfl, rfl, rfl, h0, h1, h2⟩ := trodAll_three hA
 obtain ⟨rfl, rfl⟩ := trodVars_none hV
 obtain ⟨l1, hl1, hc1⟩ := ints_of h0 (hval 0 22 v0 rfl rfl)
 obtain ⟨l2, hl2, hc2⟩ := ints_of h1 (hval 1 22 v1 rfl rfl)
 obtain ⟨n2, rfl, rfl, rfl, hw2⟩ := open_int Tryz.underlying3 (hval 2 3 v2 rfl rfl) h2
 clear hA0 hval0
 simp only [List.append_nil, List.nil_append] at hW'
 have hlt : ∀ x ∈ p0 ++ p1, x.block < W.heap.size := fun x hx => hW'.lt x (by simpa using hx)
 have hlt0 : ∀ x ∈ p0, x.block < W.heap.size := fun x hx => hlt x (by simp [hx])
 have hlt1 : ∀ x ∈ p1, x.block < W.heap.size := fun x hx => hlt x (by simp [hx])
 refine (plaitTurns_calls W v0 v1 l1 l2 n2 hl1 hl2).mono fun e W' ⟨he, hw⟩ => ?_
 subst he
 refine ⟨_, rfl, post_below (pa := p0 ++ (p1 ++ [])) (pv := []) hW' hw (fun _ _ _ => trodAll_mk1 (shut_bool Tryz.underlying4 _)) (fun sp hsp => ?_) (fun _ _ => rfl) (by simp) (ok_one (by kernel_rfl) rfl (okWide_bool_mk Tryz.underlying4 _))⟩
 exact trodAll_mk3
   (Trod_stays laidOut (by kernel_rfl) (of_decide_eq_true (by kernel_rfl)) h0 (fun x hx => hw.same (hlt0 x hx)) (fun x hx => hsp x (by simp [hx])))
   (Trod_stays laidOut (by kernel_rfl) (of_decide_eq_true (by kernel_rfl)) h1 (fun x hx => hw.same (hlt1 x hx)) (fun x hx => hsp x (by simp [hx])))
   (shut_int Tryz.underlying3 hw2)
theorem closed5 : joinedFacts Tryz.pinned.checked.prog 5 Tryz.f5 Rows.plaitTurnsSpec Rows.plaitTurnsRow = true := by kernel_rfl
theorem isw5 : Tryz.f5.isWrapper Tryz.pinned.checked.prog Rows.plaitTurnsRow.wrapper Rows.plaitTurnsRow.mainSum := by unfold Func.isWrapper; first | (rw [if_pos (by decide +kernel)]; kernel_rfl) | (rw [if_neg (by decide +kernel)]; exact ⟨rfl, rfl⟩)
theorem isi5 : Tryz.f5.isInstance Tryz.pinned.checked.prog Rows.plaitTurnsRow.origin Rows.plaitTurnsRow.targs := (of_decide_eq_true (by kernel_rfl))
theorem fnn5 : Tryz.pinned.checked.prog.funcNamed Rows.plaitTurnsRow.func = some 5 := by kernel_rfl
theorem lifted5 (os : Os) (started : os.Started) (H : Type) (enc : TypeId × Value → H) : ReturnsInHanded Rows.plaitTurnsRow.assume Tryz.pinned.checked os 5 .any (Rows.plaitTurnsRow.pre enc Tryz.pinned.checked.prog Tryz.f5 (OpenSpec.ofChange Rows.plaitTurnsSpec)) (Rows.plaitTurnsSpec.post enc Tryz.pinned.checked.prog Tryz.f5 Rows.plaitTurnsRow.apart Rows.plaitTurnsRow.fresh Rows.plaitTurnsRow.handsOn Rows.plaitTurnsRow.again) := liftedTurns os started H enc
theorem plaitTurns_said : Rows.PlaitTurnsSaid :=
 OpenClaim.holds_of_wide 5 Tryz.f5 rfl rfl rfl rfl rfl rfl rfl ⟨rfl, rfl, rfl, rfl, rfl⟩ rfl rfl rfl rfl rfl fnn5 Tryz.func5 closed5 isi5 isw5 (fun os started H enc _ => lifted5 os started H enc)
theorem wf5 : Rows.plaitTurnsRow.wfByText (OpenSpec.ofChange Rows.plaitTurnsSpec) = true := by kernel_rfl
theorem mainIs5 : Tryz.pinned.checked.prog.mainIs = some (true, "c51a5d364a83b54a69666d6fa81d88cfdf55dab161d75abdc789b8698b542bb7".toList) := by kernel_rfl
theorem goes5 : false = Rows.plaitTurnsRow.goesBy Tryz.pinned.checked.prog := by kernel_rfl
theorem looks5 : false = Tryz.pinned.checked.prog.looks [] := by kernel_rfl
theorem stand5 : ∀ (j : Nat) t, Tryz.f5.params[j]? = some t → Tryz.pinned.checked.prog.wantsStandIn t = false := fun j t ht => by
 rw [Tryz.params5] at ht
 have hm : t ∈ [22, 22, 3] := by simpa using Array.mem_of_getElem? ht
 have hall : ([22, 22, 3].all fun u => !Tryz.prog.wantsStandIn u) = true := by kernel_rfl
 exact (show Tryz.prog.wantsStandIn t = false by simpa using List.all_eq_true.1 hall t hm)
theorem plaitTurns_holds : Rows.PlaitTurnsCardSaid :=
 Claim7.holds_tied_plain_at .later [] [.data, .data, .data] true (true, "c51a5d364a83b54a69666d6fa81d88cfdf55dab161d75abdc789b8698b542bb7") false
   plaitTurns_said (fun _ h => by cases h) wf5 (fun _ h => by cases h) plaitTurns_row_tie rfl ⟨rfl, rfl⟩ mainIs5 rfl
   (fun f fn hf hfn => by
     obtain rfl : f = 5 := Option.some.inj (fnn5.symm.trans hf) |>.symm
     obtain rfl : fn = Tryz.f5 := (Option.some.inj (Tryz.func5.symm.trans hfn)).symm
     exact ⟨looks5, stand5⟩)
   goes5

end Go.Proofs.YtknbipaecnggcaaGreatDoor
