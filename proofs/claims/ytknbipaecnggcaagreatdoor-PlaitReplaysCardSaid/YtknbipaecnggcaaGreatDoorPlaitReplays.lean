/- For every list of ints and every list of moves the law PlaitReplays returns true, and the lists read afterwards as they did. Conditions: those of the row: the listed package-level variables hold what the text of the program lays, and the card ties that. -/
import Derived.Test.YtknbipaecnggcaaGreatDoorEwOb
import Derived.Deep.SlicePairs
import Derived.Test.YtknbipaecnggcaaGreatDoorEvTg
set_option linter.unusedVariables false
set_option linter.unusedSimpArgs false
set_option linter.unusedSectionVars false
set_option maxRecDepth 100000
namespace Go.Ev
open Go.Proofs Go.Shelf
theorem plaitReplays_calls (w : World) (y x : Value) (l : List Int) (ms : List (Int × Int)) (hy : IntsW w y l) (hx : W2 ⟨0, .lf, worldGl w⟩ x ms) :
   Calls Tryz.prog 4 #[y, x] w fun e w' => e = .returned (.bool true) ∧ RowKit.Below w.heap.size w w' :=
 law_calls (args := [y, x]) w (c4l OW_quiet ⟨0, .lf, worldGl w⟩ (fun H' _ => OW_awake H') y x l ms hy.sl hx (by show 0 ≤ 1000; decide) _ fun _ => rfl)
theorem take2 {vs : List Value} {k : Nat} {x y : Value} (h1 : vs[k]? = some x) (h2 : vs[k + 1]? = some y) : (vs.drop k).take 2 = [x, y] ∧ k + 2 ≤ vs.length := by
 obtain ⟨a1, e1⟩ := List.getElem?_eq_some_iff.1 h1
 obtain ⟨a2, e2⟩ := List.getElem?_eq_some_iff.1 h2
 refine ⟨?_, by omega⟩
 rw [List.drop_eq_getElem_cons a1, List.drop_eq_getElem_cons a2, e1, e2]
 rfl
end Go.Ev
namespace Go.Proofs.YtknbipaecnggcaaGreatDoor
open Go.ChangeShapes Go.WideShapes Go.ChangeAt Go.WideMaps Go.WideElems Go.RowKit Go.Ev
theorem moves_of {H : Type} {enc : TypeId × Value → H} {W : World} {v : Value} {d : DataW H} {ps : List MemPlace} (h : DataW.Trod enc Tryz.prog W 0 (fun _ => true) true 40 v d ps) {base : Nat} (hval : Value.okWide Tryz.prog W .any base 40 v) : ∃ ms, W2 ⟨0, .lf, worldGl W⟩ v ms := by
 obtain ⟨a0, len, cap, rfl⟩ := okWide_slice Tryz.underlying40 hval
 obtain ⟨fuel, hf⟩ := h
 have hf : DataW.trod enc Tryz.prog W 0 (fun _ => true) true fuel 40 [.slice a0 len cap] = some (d, ps) := by simpa [Value.cells] using hf
 rcases Go.Deep.open_slice_pairs Tryz.underlying40 Tryz.underlying24 cells24 rfl rfl cells3 cells3 hf with ⟨hcs, _⟩ | ⟨a, len', cap', m, n, V0, V1, D0, D1, P0, P1, hcs, _, hl, _, hm, _, hx⟩
 · simp at hcs
   obtain ⟨rfl, rfl, rfl⟩ := hcs
   exact ⟨[], none, 0, rfl, .inl rfl⟩
 · simp at hcs
   obtain ⟨rfl, rfl, rfl⟩ := hcs
   simp only [if_true] at hm
   subst hm
   have hz : ∀ i, i < m → ∃ z : Int × Int, V0 i = .int .i64 z.1 ∧ V1 i = .int .i64 z.2 := fun i hi => by
     obtain ⟨_, _, h0, h1⟩ := hx i hi
     obtain ⟨z0, e0, _, _⟩ := DataW.trod_int Tryz.underlying3 h0
     obtain ⟨z1, e1, _, _⟩ := DataW.trod_int Tryz.underlying3 h1
     simp at e0 e1
     exact ⟨(z0, z1), e0, e1⟩
   let Z : Nat → Int × Int := fun i => ((match V0 i with | .int _ z => z | _ => 0), (match V1 i with | .int _ z => z | _ => 0))
   have hZ : ∀ i, i < m → V0 i = .int .i64 (Z i).1 ∧ V1 i = .int .i64 (Z i).2 := fun i hi => by
     obtain ⟨z, e0, e1⟩ := hz i hi
     show V0 i = .int .i64 (match V0 i with | .int _ z => z | _ => 0) ∧ V1 i = .int .i64 (match V1 i with | .int _ z => z | _ => 0)
     rw [e0, e1]
     exact ⟨rfl, rfl⟩
   refine ⟨(List.range len).map Z, some a, m, by simp, ?_⟩
   rcases Nat.eq_zero_or_pos len with h0 | h0
   · subst h0; exact .inl rfl
   right
   obtain ⟨b, off, spot⟩ := a
   have hs : spot = none := by simpa [Addr.add] using World.cell?_spot (hx 0 (by omega)).1
   subst hs
   have hc0 := (hx 0 (by omega)).1
   rw [addr_plus] at hc0
   obtain ⟨vs, hvs, _⟩ := cell_gl hc0
   refine ⟨b, off, vs, rfl, hvs, fun j p hj => ?_⟩
   have hjl : j < len := by
     have := (List.getElem?_eq_some_iff.1 hj).1
     simpa using this
   have hp : p = Z j := by
     rw [List.getElem?_map, List.getElem?_range hjl] at hj
     simpa using hj.symm
   subst hp
   obtain ⟨c0, c1, _, _⟩ := hx j (by omega)
   rw [addr_plus] at c0 c1
   obtain ⟨vs0, g0, e0⟩ := cell_gl c0
   obtain ⟨vs1, g1, e1⟩ := cell_gl c1
   rw [hvs] at g0 g1
   cases g0
   cases g1
   obtain ⟨q0, q1⟩ := hZ j (by omega)
   rw [q0] at e0
   rw [q1] at e1
   exact take2 e0 e1
theorem liftedReplays (os : Os) (started : os.Started) (H : Type) (enc : TypeId × Value → H) :
   ReturnsInHanded {} Tryz.checked os 4 .any (fun w args => (Rows.plaitReplaysSpec.pre enc Tryz.prog Tryz.f4 [] false w args ∧ laidMetH Tryz.prog laidL w) ∧ sizedMet enc Tryz.prog Tryz.f4 (OpenSpec.ofChange Rows.plaitReplaysSpec) false w args)
     (Rows.plaitReplaysSpec.post enc Tryz.prog Tryz.f4 false true false false) := by
 refine returnsInHanded_and_shaped (C := Tryz.checked) (X := fun w _ => laidMetH Tryz.prog laidL w) (fun _ _ _ hh h => h.of_heap hh) own started (by kernel_rfl) Tryz.func4
   (ChangeSpec.witness_shaped (enc := enc) (C := Tryz.checked) (os := os) (X := fun w _ => laidMetH Tryz.prog laidL w) false (World.laidAll Tryz.prog os laidL) #[.slice none 0 0, .slice none 0 0] 8 (World.laidAll_os _ _ _)
     (World.shaped_of_ZipB (by kernel_rfl) (by kernel_rfl)) (by kernel_rfl) (by kernel_rfl) (by kernel_rfl)
     (by rw [MakeChecks.laidMetH_plain _ _ _ (by kernel_rfl)]; exact laidMet_laidAll _ (by kernel_rfl) (by kernel_rfl))) ?_
 intro W base args ds gs before hval0 hW hsh hL
 have hval : ∀ (j : Nat) t v, Tryz.f4.params[j]? = some t → args[j]? = some v → Value.okWide Tryz.prog W .any base t v := hval0
 have hW' := hW
 obtain ⟨p, q, hA0, hV, rfl, hfz, hnd⟩ := hW
 have hA : DataW.TrodAll enc Tryz.prog W 0 (fun _ => true) true Tryz.f4.params.toList args.toList ds p := hA0
 rw [Tryz.params4] at hA hval
 obtain ⟨v0, v1, d0, d1, p0, p1, rfl, rfl, rfl, h0, h1⟩ := trodAll_two hA
 obtain ⟨rfl, rfl⟩ := trodVars_none hV
 obtain ⟨l1, hl1, hc1⟩ := ints_of h0 (hval 0 22 v0 rfl rfl)
 obtain ⟨ms, hms⟩ := moves_of h1 (hval 1 40 v1 rfl rfl)
 clear hA0 hval0
 simp only [List.append_nil, List.nil_append] at hW'
 have hlt : ∀ x ∈ p0 ++ p1, x.block < W.heap.size := fun x hx => hW'.lt x (by simpa using hx)
 have hlt0 : ∀ x ∈ p0, x.block < W.heap.size := fun x hx => hlt x (by simp [hx])
 have hlt1 : ∀ x ∈ p1, x.block < W.heap.size := fun x hx => hlt x (by simp [hx])
 refine (plaitReplays_calls W v0 v1 l1 ms hl1 hms).mono fun e W' ⟨he, hw⟩ => ?_
 subst he
 refine ⟨_, rfl, post_below (pa := p0 ++ p1) (pv := []) hW' hw (fun _ _ _ => trodAll_mk1 (shut_bool Tryz.underlying4 _)) (fun sp hsp => ?_) (fun _ _ => rfl) (by simp) (ok_one (by kernel_rfl) rfl (okWide_bool_mk Tryz.underlying4 _))⟩
 exact trodAll_mk2
   (Trod_stays laidOut (by kernel_rfl) (of_decide_eq_true (by kernel_rfl)) h0 (fun x hx => hw.same (hlt0 x hx)) (fun x hx => hsp x (by simp [hx])))
   (Trod_stays laidOut (by kernel_rfl) (of_decide_eq_true (by kernel_rfl)) h1 (fun x hx => hw.same (hlt1 x hx)) (fun x hx => hsp x (by simp [hx])))
theorem closed4 : joinedFacts Tryz.pinned.checked.prog 4 Tryz.f4 Rows.plaitReplaysSpec Rows.plaitReplaysRow = true := by kernel_rfl
theorem isw4 : Tryz.f4.isWrapper Tryz.pinned.checked.prog Rows.plaitReplaysRow.wrapper Rows.plaitReplaysRow.mainSum := by unfold Func.isWrapper; first | (rw [if_pos (by decide +kernel)]; kernel_rfl) | (rw [if_neg (by decide +kernel)]; exact ⟨rfl, rfl⟩)
theorem isi4 : Tryz.f4.isInstance Tryz.pinned.checked.prog Rows.plaitReplaysRow.origin Rows.plaitReplaysRow.targs := (of_decide_eq_true (by kernel_rfl))
theorem fnn4 : Tryz.pinned.checked.prog.funcNamed Rows.plaitReplaysRow.func = some 4 := by kernel_rfl
theorem lifted4 (os : Os) (started : os.Started) (H : Type) (enc : TypeId × Value → H) : ReturnsInHanded Rows.plaitReplaysRow.assume Tryz.pinned.checked os 4 .any (Rows.plaitReplaysRow.pre enc Tryz.pinned.checked.prog Tryz.f4 (OpenSpec.ofChange Rows.plaitReplaysSpec)) (Rows.plaitReplaysSpec.post enc Tryz.pinned.checked.prog Tryz.f4 Rows.plaitReplaysRow.apart Rows.plaitReplaysRow.fresh Rows.plaitReplaysRow.handsOn Rows.plaitReplaysRow.again) := liftedReplays os started H enc
theorem plaitReplays_said : Rows.PlaitReplaysSaid :=
 OpenClaim.holds_of_wide 4 Tryz.f4 rfl rfl rfl rfl rfl rfl rfl ⟨rfl, rfl, rfl, rfl, rfl⟩ rfl rfl rfl rfl rfl fnn4 Tryz.func4 closed4 isi4 isw4 (fun os started H enc _ => lifted4 os started H enc)
theorem wf4 : Rows.plaitReplaysRow.wfByText (OpenSpec.ofChange Rows.plaitReplaysSpec) = true := by kernel_rfl
theorem mainIs4 : Tryz.pinned.checked.prog.mainIs = some (true, "c51a5d364a83b54a69666d6fa81d88cfdf55dab161d75abdc789b8698b542bb7".toList) := by kernel_rfl
theorem goes4 : false = Rows.plaitReplaysRow.goesBy Tryz.pinned.checked.prog := by kernel_rfl
theorem looks4 : false = Tryz.pinned.checked.prog.looks [] := by kernel_rfl
theorem stand4 : ∀ (j : Nat) t, Tryz.f4.params[j]? = some t → Tryz.pinned.checked.prog.wantsStandIn t = false := fun j t ht => by
 rw [Tryz.params4] at ht
 have hm : t ∈ [22, 40] := by simpa using Array.mem_of_getElem? ht
 have hall : ([22, 40].all fun u => !Tryz.prog.wantsStandIn u) = true := by kernel_rfl
 exact (show Tryz.prog.wantsStandIn t = false by simpa using List.all_eq_true.1 hall t hm)
theorem plaitReplays_holds : Rows.PlaitReplaysCardSaid :=
 Claim7.holds_tied_plain_at .later [] [.data, .data, .data] true (true, "c51a5d364a83b54a69666d6fa81d88cfdf55dab161d75abdc789b8698b542bb7") false
   plaitReplays_said (fun _ h => by cases h) wf4 (fun _ h => by cases h) plaitReplays_row_tie rfl ⟨rfl, rfl⟩ mainIs4 rfl
   (fun f fn hf hfn => by
     obtain rfl : f = 4 := Option.some.inj (fnn4.symm.trans hf) |>.symm
     obtain rfl : fn = Tryz.f4 := (Option.some.inj (Tryz.func4.symm.trans hfn)).symm
     exact ⟨looks4, stand4⟩)
   goes4

end Go.Proofs.YtknbipaecnggcaaGreatDoor
