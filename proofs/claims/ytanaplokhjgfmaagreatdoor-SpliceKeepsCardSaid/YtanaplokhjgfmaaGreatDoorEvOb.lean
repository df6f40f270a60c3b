/- Part of an evaluator of calls that is proved sound, and of what it gives about this program. No condition of its own. -/
import Derived.Test.YtanaplokhjgfmaaGreatDoorEvG10
import Derived.Test.YtanaplokhjgfmaaGreatDoorEvHa
import Derived.Test.YtanaplokhjgfmaaGreatDoorCards
import Derived.Test.YtanaplokhjgfmaaGreatDoorTie
import Derived.ProofKit
import Derived.LaidMore
import Derived.Lay
import Derived.OpenShut
import Derived.Stop.Joined
import Derived.SevenTiedAt
import Derived.Shelf.Vars
import Derived.HandedShaped
import Derived.Lib.SmallJoins
set_option linter.unusedVariables false
set_option linter.unusedSimpArgs false
set_option linter.unusedSectionVars false
set_option maxRecDepth 100000
namespace Go.Ev
open Go.Proofs Go.Shelf
def worldGl (w : World) : Nat → Option (List Value) := fun g => match w.heap[g]? with | some (.cells cs _ _) => some cs.toList | _ => none
theorem worldGl_some {w : World} {g : Nat} {vs : List Value} (h : worldGl w g = some vs) : ∃ e fz, w.heap[g]? = some (.cells vs.toArray e fz) := by
 unfold worldGl at h
 split at h
 · rename_i cs e fz hg
   cases h
   exact ⟨e, fz, by rw [hg]⟩
 · cases h
noncomputable def OW : CallF := fun g args H => match Nat.beq g 10 with
 | true => (match args with | [] => (match gtest H.gl with | true => some (.v (.bool true), H) | false => none) | _ => none)
 | false => none
theorem OW_quiet : Quiet OW := fun g args H h => by
 simp only [Bool.or_eq_false_iff] at h
 unfold OW
 rw [h.1.1]
theorem OW_ok : CallOk Tryz.prog OW := by
 intro g args H r H' hc hle base ρ w vs hI hf hv
 unfold OW at hc
 split at hc
 · rename_i hg
   have hg := Nat.eq_of_beq_eq_true hg
   subst hg
   split at hc
   · split at hc
     · rename_i hgt
       cases hc
       cases hv
       exact callOk_plain (gl := gl0) (y := .bool true) (args := []) (fun w h => awake_call w h) hI (gtest_ok _ hgt)
     · cases hc
   · cases hc
 · cases hc
theorem OW_awake {H : AH} (h : gtest H.gl = true) (H' : AH) (hg : H'.gl = H.gl) : OW 10 [] H' = some (.v (.bool true), H') := by
 unfold OW
 simp only [hg, h]
theorem law_calls {g : FuncId} {args : List Value} (w : World) (h : Ca (ENV OW) g (args.map .v) ⟨0, .lf, worldGl w⟩ fun r _ => r = .v (.bool true)) :
   Calls Tryz.prog g args.toArray w fun e w' => e = .returned (.bool true) ∧ RowKit.Below w.heap.size w w' := by
 obtain ⟨n, r, H', h1, rfl⟩ := h
 exact evCall_calls TF_ok OW_ok mixed (plansT_all TPl_ok) (fun g vs hg => worldGl_some hg) h1
def IntsW (w : World) (x : Value) (l : List Int) : Prop :=
 (x = .slice none 0 0 ∧ l = []) ∨ ∃ a cap, x = .slice (some a) l.length cap ∧ ∀ i, i < l.length → w.cell? (a.add i) = some (.int .i64 (l.getD i 0))
theorem cell_gl {w : World} {b off : Nat} {v : Value} (h : w.cell? ⟨b, off, none⟩ = some v) : ∃ vs, worldGl w b = some vs ∧ vs[off]? = some v := by
 unfold World.cell? at h
 unfold worldGl
 cases hb : w.heap[b]? with
 | none => simp [hb] at h
 | some o =>
   cases o with
   | cells cs e fz => simp [hb] at h; exact ⟨cs.toList, rfl, by simpa using h⟩
   | _ => simp [hb] at h
theorem IntsW.sl {w : World} {x : Value} {l : List Int} (h : IntsW w x l) : Sl ⟨0, .lf, worldGl w⟩ (.v x) (ivs l) := by
 rcases h with ⟨rfl, rfl⟩ | ⟨a, cap, rfl, h⟩
 · exact ⟨rfl, .inl rfl⟩
 · refine ⟨(ivs_length l).symm, ?_⟩
   cases l with
   | nil => exact .inl rfl
   | cons z l =>
     obtain ⟨b, off, spot⟩ := a
     have hs : spot = none := by simpa [Addr.add] using World.cell?_spot (h 0 (Nat.succ_pos _))
     subst hs
     obtain ⟨vs, hvs, _⟩ := cell_gl (show w.cell? ⟨b, off, none⟩ = _ from h 0 (Nat.succ_pos _))
     refine .inr ⟨b, off, vs, rfl, hvs, fun j v hv => ?_⟩
     simp only [ivs, List.getElem?_map, Option.map_eq_some_iff] at hv
     obtain ⟨y, hy, rfl⟩ := hv
     have hj := (List.getElem?_eq_some_iff.1 hy).1
     have hc := h j hj
     rw [addr_plus] at hc
     obtain ⟨vs', h1, h2⟩ := cell_gl hc
     rw [hvs] at h1
     cases h1
     exact ⟨_, h2, by simp [List.getD, hy]⟩
theorem IntsW.cap {w : World} {x : Value} {l : List Int} (h : IntsW w x l) (hc : ∀ a n c, x = .slice a n c → n ≤ c) : ∃ a n c, x = .slice a n c ∧ n ≤ c := by
 rcases h with ⟨rfl, _⟩ | ⟨a, cap, rfl, _⟩
 · exact ⟨none, 0, 0, rfl, Nat.le_refl _⟩
 · exact ⟨_, _, _, rfl, hc _ _ _ rfl⟩
end Go.Ev
namespace Go.Proofs.YtanaplokhjgfmaaGreatDoor
open Go.ChangeShapes Go.WideShapes Go.ChangeAt Go.WideMaps Go.WideElems Go.RowKit Go.Ev
theorem own : ownKnob Tryz.prog.godebug = none := by kernel_rfl
theorem laidOut : laidOutB Tryz.prog = true := by kernel_rfl
theorem gPow : Tryz.prog.globalNamed "internal/strconv.uint64pow10" = some 3 := by kernel_rfl
theorem tPow : (Tryz.prog.globals[3]?).map (·.type) = some 297 := by kernel_rfl
theorem cells233 : Tryz.prog.cellsOf 233 = 1 := by kernel_rfl
theorem cells297 : Tryz.prog.cellsOf 297 = 20 := by kernel_rfl
theorem cells3 : Tryz.prog.cellsOf 3 = 1 := by kernel_rfl
theorem cells24x : Tryz.prog.cellsOf 24 = 1 := by kernel_rfl
def laidL : List (String × DataW Unit) := Rows.spliceShapesRow.laid
theorem pow_data : (Rows.laid_internal_strconv_uint64pow10 : DataW Unit) = .agg ((List.range 20).map fun k => .lit (.int .u64 (10 ^ k))) := by kernel_rfl
theorem pow_of_laid {W : World} (h : laidMetH Tryz.prog laidL W) : gtest (worldGl W) = true := by
 have h1 := h.filter (fun x => x.1 == "internal/strconv.uint64pow10")
 rw [show (laidL.filter (fun x => x.1 == "internal/strconv.uint64pow10")) = [("internal/strconv.uint64pow10", Rows.laid_internal_strconv_uint64pow10)] by kernel_rfl, MakeChecks.laidMetH_plain _ _ _ (by kernel_rfl), pow_data] at h1
 obtain ⟨ps, ⟨g, t, cs, f, p, q, hg, ht, hv, hd, _, _⟩, _, _⟩ := h1
 obtain rfl := Option.some.inj (gPow.symm.trans hg)
 obtain rfl := Option.some.inj (tPow.symm.trans ht)
 obtain ⟨xs, m1, rfl, hx1, hlen, hn, hel⟩ := DataW.trod_array Tryz.underlying297 hd
 simp only [Prod.mk.injEq, DataW.agg.injEq] at hx1
 rw [cells297] at hlen
 have hcs : cs.toList = powL := by
   apply List.ext_getElem?
   intro i
   rcases Nat.lt_or_ge i 20 with hi | hi
   · have h2 := hel i hi
     rw [cells233, Nat.mul_one] at h2
     obtain ⟨x, hx⟩ : ∃ x, xs[i]? = some x := ⟨_, List.getElem?_eq_getElem (by omega)⟩
     have h3 : (xs.map (·.1))[i]? = some (DataW.lit (.int .u64 (10 ^ i))) := by rw [← hx1.1]; simp [hi]
     rw [List.getElem?_map, hx] at h3
     have h3 : x.1 = DataW.lit (.int .u64 (10 ^ i)) := by simpa using h3
     rw [hx] at h2
     obtain ⟨n, h4, h5, _⟩ := DataW.trod_int Tryz.underlying233 h2
     have h5 : x.1 = .lit (.int .u64 n) := by rw [h5]
     rw [h5] at h3
     have h6 : n = 10 ^ i := by simpa using h3
     have h7 : cs.toList[i]? = some (.int .u64 n) := by
       have : ((cs.toList.drop i).take 1)[0]? = some (.int .u64 n) := by rw [h4]; rfl
       simpa [List.getElem?_take, List.getElem?_drop] using this
     rw [h7, h6]
     simp [powL, hi]
   · rw [List.getElem?_eq_none (by omega), List.getElem?_eq_none (by simp [powL]; omega)]
 have hb : ∃ e fz, W.heap[3]? = some (.cells cs e fz) := by
   simp only [World.var?, hg, Option.bind_some] at hv
   split at hv
   · rename_i c e fz hh
     cases hv
     exact ⟨e, fz, hh⟩
   · cases hv
 obtain ⟨e, fz, hb⟩ := hb
 have hw : worldGl W 3 = some powL := by unfold worldGl; rw [hb, ← hcs]
 have hv : valsEq powL powL = true := by kernel_rfl
 unfold gtest
 rw [hw]
 exact hv
section
variable {H : Type} {enc : TypeId × Value → H} {P : Program}
theorem post_below {f : Func} {s : ChangeSpec} {apart fresh handsOn again : Bool} {W W' : World} {args : Array Value} {v : Value} {ds gs : List (DataW H)} {before pa pv : List MemPlace}
   (hW : DataW.Whole enc P f.params.toList s.vars apart W args.toList ds gs before) (hb : Below W.heap.size W W')
   (hres : ∀ (b : Nat) (sp : Nat → Bool) (hd : Bool), DataW.TrodAll enc P W' b sp hd f.resultTypes.toList (v.resultList f.resultTypes.size) (s.fn H (ds ++ gs)).results [])
   (hargs : ∀ sp : Nat → Bool, (∀ p ∈ before, sp p.block = true) → DataW.TrodAll enc P W' 0 sp true f.params.toList args.toList (s.fn H (ds ++ gs)).args pa)
   (hvars : ∀ sp : Nat → Bool, (∀ p ∈ before, sp p.block = true) → DataW.TrodVars enc P W' sp s.vars (s.fn H (ds ++ gs)).vars pv)
   (hps : before = pa ++ pv)
   (hok : ∀ (j : Nat) (t : TypeId) (r : Value), f.resultTypes[j]? = some t → (v.resultList f.resultTypes.size)[j]? = some r → Value.okWide P W' .any 0 t r) :
   s.post enc P f apart fresh handsOn again W args v W' := by
 have hold : ∀ p ∈ before, (fun b => decide (b < W.heap.size)) p.block = true := fun p hp => by simpa using hW.lt p hp
 have hlt := hW.lt
 refine ⟨ds, gs, before, [], pa, pv, hW, hres _ _ _, hargs _ hold, hvars _ hold, World.keptBut_mono (fun p hp => ⟨hp, ?_⟩) (hb.frame (· ∈ before)), fun _ => ?_⟩
 · rw [hps, List.mem_append] at hp
   exact Or.inr hp
 · obtain ⟨_, _, _, _, _, hz, hn⟩ := hW
   refine ⟨hok, _, _, ([] ++ pa) ++ pv, ⟨[] ++ pa, pv, trodAll_append (hargs _ (fun _ _ => rfl)) (hres _ _ _), hvars _ (fun _ _ => rfl), rfl, ?_, ?_⟩, ?_⟩
   · intro b off hp
     have hp' : MemPlace.cell b off ∈ before := by rw [hps]; simpa using hp
     have := hlt _ hp'
     rw [hb.frozen (p := ⟨b, off, none⟩) this]
     exact hz b off hp'
   · intro ha
     have := hn ha
     rw [hps] at this
     simpa using this
   · intro p hp _
     rw [hps]
     simpa using hp
end
theorem slice_of {H : Type} {enc : TypeId × Value → H} {W : World} {v : Value} {x : DataW H × List MemPlace} {fuel : Nat} (hf : DataW.trod enc Tryz.prog W 0 (fun _ => true) true fuel 24 [v] = some x) : ∃ l, IntsW W v l ∧ ∃ a n c, v = .slice a n c ∧ n ≤ c := by
 rcases open_ints Tryz.underlying24 Tryz.underlying3 cells3 hf with ⟨hcs, _⟩ | ⟨a, len', cap', zs, hcs, _, hl, _, hz, _, hcell, _⟩
 · simp at hcs
   subst hcs
   exact ⟨[], .inl ⟨rfl, rfl⟩, _, _, _, rfl, Nat.le_refl _⟩
 · simp at hcs
   subst hcs
   simp only [if_true] at hz
   have hlen : (zs.take len').length = len' := by rw [List.length_take]; omega
   refine ⟨zs.take len', .inr ⟨a, cap', by rw [hlen], fun i hi => ?_⟩, _, _, _, rfl, hl⟩
   rw [hcell i (by omega)]
   congr 2
   simp only [List.getD, List.getElem?_take]
   rw [if_pos (by omega)]
theorem returnsInHanded_and_shaped {H : Type} {enc : TypeId × Value → H} {a : Assume} {C : Checked} {os : Os} {f : FuncId} {fn : Func} {s : ChangeSpec} {conds : List PathCond} {apart fresh handsOn again : Bool} {X : World → Array Value → Prop}
   (hX : ∀ (w w' : World) (args : Array Value), w.heap = w'.heap → X w args → X w' args)
   (own : ownKnob C.prog.godebug = none) (started : os.Started) (noInit : C.prog.inits.idxOf? f = none) (hfn : C.prog.funcs[f]? = some fn)
   (witness : ∃ (w : World) (tape : Tape) (i : Input), w.os = os ∧ (w.forCall tape i).Shaped C.prog ∧ i.vars = [] ∧ Input.okWide C.prog (w.forCall tape i) .any w.heap.size f i ∧
     ((s.pre enc C.prog fn conds apart (w.forCall tape i).memory i.args ∧ X (w.forCall tape i).memory i.args) ∧ sizedMet enc C.prog fn (OpenSpec.ofChange s) apart (w.forCall tape i).memory i.args) ∧ a.holds C.prog (lone (Frame.enter C.prog f i.args .normal) [] (w.forCall tape i)))
   (contract : ∀ (W : World) (base : Nat) (args : Array Value) (ds gs : List (DataW H)) (before : List MemPlace),
     (∀ (j : Nat) t v, fn.params[j]? = some t → args[j]? = some v → Value.okWide C.prog W .any base t v) →
     DataW.Whole enc C.prog fn.params.toList s.vars apart W args.toList ds gs before →
     W.ShapedOpen C.prog → X W args →
     Calls C.prog f args W fun e W' => ∃ v, e = .returned v ∧ s.post enc C.prog fn apart fresh handsOn again W args v W') :
   ReturnsInHanded a C os f .any (fun w args => (s.pre enc C.prog fn conds apart w args ∧ X w args) ∧ sizedMet enc C.prog fn (OpenSpec.ofChange s) apart w args) (s.post enc C.prog fn apart fresh handsOn again) := by
 refine returnsInHanded_of_calls own started noInit witness ?_
 intro w tape i _ hsh _ hok hpre hholds
 obtain ⟨_, _, _, fn', hfn', _, _, _, _, hval⟩ := hok
 have e : fn' = fn := Option.some.inj (hfn'.symm.trans hfn)
 subst e
 obtain ⟨⟨⟨ds, gs, before, hw, hc⟩, hx⟩, hz⟩ := hpre
 have hw' := DataW.Whole.of_heap (w' := w.forCall tape i) (by rfl) hw
 refine (contract (w.forCall tape i) w.heap.size i.args ds gs before hval hw' hsh (hX _ _ _ (by rfl) hx)).mono fun e W' ⟨v, he, hp⟩ => ?_
 subst he
 exact ChangeSpec.post_blind hp
end Go.Proofs.YtanaplokhjgfmaaGreatDoor
