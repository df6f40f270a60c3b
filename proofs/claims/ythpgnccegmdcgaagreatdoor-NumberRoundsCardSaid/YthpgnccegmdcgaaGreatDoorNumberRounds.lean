/- For every list of ints and every two ints the law NumberRounds returns true, and the list reads afterwards as it did. Conditions: those of the row: the listed package-level variables hold what the text of the program lays, and the card ties that. -/
import Derived.Test.YthpgnccegmdcgaaGreatDoorEwHl
import Derived.Test.YthpgnccegmdcgaaGreatDoorEvJ8
set_option linter.unusedVariables false
set_option linter.unusedSimpArgs false
set_option maxRecDepth 100000
namespace Go.Ev
open Go.Proofs Go.Shelf
/-- The calls that are known: awake, and those of the period. -/
noncomputable def OR : CallF := fun g args H => match Nat.beq g 8 with
  | true => OW 8 args H
  | false => match (Nat.beq g 34 || (Nat.ble 52 g && Nat.ble g 55)) with
    | true => perO g args H
    | false => none
theorem OR_quiet : Quiet OR := fun g args H h => by
  obtain ⟨h, h3⟩ := Bool.or_eq_false_iff.1 h
  obtain ⟨h, h2⟩ := Bool.or_eq_false_iff.1 h
  obtain ⟨h1, _⟩ := Bool.or_eq_false_iff.1 h
  unfold OR
  rw [h1]
  simp only [h2, h3, Bool.or_self]
theorem OR_pers : Pers OR := fun g args H h => by
  have h1 : Nat.beq g 8 = false := by
    cases e : Nat.beq g 8 with
    | false => rfl
    | true =>
      have e := Nat.eq_of_beq_eq_true e
      subst e
      cases h
  unfold OR
  rw [h1, h]
theorem OR_ok : CallOk Tryz.prog OR := by
  intro g args H r H' hc
  unfold OR at hc
  split at hc
  · rename_i hg
    have hg := Nat.eq_of_beq_eq_true hg
    subst hg
    exact OW_ok _ _ _ _ _ hc
  · split at hc
    · exact perO_ok _ _ _ _ _ hc
    · cases hc
theorem OR_awake {H : AH} (h : gtest H.gl = true) (H' : AH) (hg : H'.gl = H.gl) : OR 8 [] H' = some (.v (.bool true), H') := OW_awake h H' hg
theorem law_callsR {g : FuncId} {args : List Value} (w : World) (h : Ca (ENV OR) g (args.map .v) ⟨0, .lf, worldGl w⟩ fun r _ => r = .v (.bool true)) :
    Calls Tryz.prog g args.toArray w fun e w' => e = .returned (.bool true) ∧ RowKit.Below w.heap.size w w' := by
  obtain ⟨n, r, H', h1, rfl⟩ := h
  exact evCall_calls TF_ok OR_ok mixed (plansT_all TPl_ok) (fun g vs hg => worldGl_some hg) h1
theorem numberRounds_calls (w : World) (hg : gtest (worldGl w) = true) (x : Value) (l : List Int) (k n : Int) (hx : IntsW w x l) :
    Calls Tryz.prog 6 #[x, .int .i64 k, .int .i64 n] w fun e w' => e = .returned (.bool true) ∧ RowKit.Below w.heap.size w w' :=
  law_callsR (args := [x, .int .i64 k, .int .i64 n]) w (c6 OR_quiet OR_pers ⟨0, .lf, worldGl w⟩ (OR_awake hg) (.v x) l k n hx.sl (Old.v _) (by show 0 + 5000000 < 2 ^ 39; decide) _ fun _ => rfl)
end Go.Ev
namespace Go.Proofs.YthpgnccegmdcgaaGreatDoor
open Go.ChangeShapes Go.WideShapes Go.ChangeAt Go.WideMaps Go.WideElems Go.RowKit Go.Ev

theorem liftedRounds (os : Os) (started : os.Started) (H : Type) (enc : TypeId × Value → H) :
    ReturnsInHanded {} Tryz.checked os 6 .any (fun w args => (Rows.numberRoundsSpec.pre enc Tryz.prog Tryz.f6 [] false w args ∧ laidMetH Tryz.prog laidL w) ∧ sizedMet enc Tryz.prog Tryz.f6 (OpenSpec.ofChange Rows.numberRoundsSpec) false w args)
      (Rows.numberRoundsSpec.post enc Tryz.prog Tryz.f6 false true false false) := by
  refine returnsInHanded_of_change_and (C := Tryz.checked) (X := fun w _ => laidMetH Tryz.prog laidL w) (fun _ _ _ hh h => h.of_heap hh) own started (by kernel_rfl) Tryz.func6
    (ChangeSpec.witness_shaped (enc := enc) (C := Tryz.checked) (os := os) (X := fun w _ => laidMetH Tryz.prog laidL w) false (World.doorLaid Tryz.prog 62 os) #[.slice none 0 0, .int .i64 0, .int .i64 0] 8 rfl (World.shaped_of_RefB (by kernel_rfl) (by kernel_rfl)) (by kernel_rfl) (by kernel_rfl) (by kernel_rfl) (door_met os _)) ?_
  intro W base args ds gs before hval0 hW _ _ hL _
  have hval : ∀ (j : Nat) t v, Tryz.f6.params[j]? = some t → args[j]? = some v → Value.okWide Tryz.prog W .any base t v := hval0
  have hW' := hW
  obtain ⟨p, q, hA0, hV, rfl, hfz, hnd⟩ := hW
  have hA : DataW.TrodAll enc Tryz.prog W 0 (fun _ => true) true Tryz.f6.params.toList args.toList ds p := hA0
  rw [Tryz.params6] at hA hval
  obtain ⟨v0, v1, v2, d0, d1, d2, p0, p1, p2, rfl, rfl, rfl, h0, h1, h2⟩ := trodAll_three hA
  obtain ⟨rfl, rfl⟩ := trodVars_none hV
  obtain ⟨l1, hl1⟩ := ints_of h0 (hval 0 22 v0 rfl rfl)
  obtain ⟨n1, rfl, rfl, rfl, hw1⟩ := open_int Tryz.underlying3 (hval 1 3 v1 rfl rfl) h1
  obtain ⟨n2, rfl, rfl, rfl, hw2⟩ := open_int Tryz.underlying3 (hval 2 3 v2 rfl rfl) h2
  clear hA0 hval0
  simp only [List.append_nil, List.nil_append] at hW'
  have hlt : ∀ x ∈ p0, x.block < W.heap.size := fun x hx => hW'.lt x hx
  refine (numberRounds_calls W (pow_of_laid hL) v0 l1 n1 n2 hl1).mono fun e W' ⟨he, hw⟩ => ?_
  subst he
  refine ⟨_, rfl, post_below (pa := p0 ++ ([] ++ [])) (pv := []) hW' hw (fun _ _ _ => trodAll_mk1 (shut_bool Tryz.underlying4 _)) (fun sp hsp => ?_) (fun _ _ => rfl) (by simp) (ok_one (by kernel_rfl) rfl (okWide_bool_mk Tryz.underlying4 _))⟩
  exact trodAll_mk3 (Trod_stays laidOut (by kernel_rfl) (of_decide_eq_true (by kernel_rfl)) h0 (fun x hx => hw.same (hlt x hx)) (fun x hx => hsp x (by simpa using hx)))
    (shut_int Tryz.underlying3 hw1)
    (shut_int Tryz.underlying3 hw2)

theorem numberRounds_said : Rows.NumberRoundsSaid :=
  OpenClaim.holds_of_wide 6 Tryz.f6 rfl rfl rfl rfl rfl rfl rfl ⟨rfl, rfl, rfl, rfl, rfl⟩ rfl rfl rfl rfl rfl (by kernel_rfl) Tryz.func6 (by kernel_rfl)
    (of_decide_eq_true (by kernel_rfl)) (by unfold Func.isWrapper; first | (rw [if_pos (by decide +kernel)]; kernel_rfl) | (rw [if_neg (by decide +kernel)]; exact ⟨rfl, rfl⟩))
    (fun os started H enc _ => liftedRounds os started H enc)

theorem numberRounds_holds : Rows.NumberRoundsCardSaid :=
  Claim7.holds_tied_plain_at .later [] [.data, .data, .data, .sentinel, .sentinel] true (true, "0dffc1a5c02d00214beb3c8f86edd11b5469611a17b00b58c0ff7975837426bd") true
    numberRounds_said (fun _ h => by cases h) (by kernel_rfl) (fun _ h => by cases h) numberRounds_row_tie rfl ⟨rfl, rfl⟩ (by kernel_rfl) rfl
    (fun f fn hf hfn => by
      obtain rfl : f = 6 := Option.some.inj ((show Tryz.prog.funcNamed Rows.numberRoundsRow.func = some 6 by kernel_rfl).symm.trans hf) |>.symm
      obtain rfl : fn = Tryz.f6 := (Option.some.inj (Tryz.func6.symm.trans hfn)).symm
      exact ⟨by kernel_rfl, fun j t ht => by
        rw [Tryz.params6] at ht
        have hm : t ∈ [22, 3, 3] := by simpa using Array.mem_of_getElem? ht
        have hall : ([22, 3, 3].all fun u => !Tryz.prog.wantsStandIn u) = true := by kernel_rfl
        exact (show Tryz.prog.wantsStandIn t = false by simpa using List.all_eq_true.1 hall t hm)⟩)
    (by kernel_rfl)

end Go.Proofs.YthpgnccegmdcgaaGreatDoor
