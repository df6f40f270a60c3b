/- For every machine and every int the law MachineCycles returns true, and the machine reads afterwards as it did. Conditions: those of the row: the listed package-level variables hold what the text of the program lays, and the card ties that. -/
import Derived.Test.YthdgnapkfbjjeaaGreatDoorEvG12
import Derived.Test.YthdgnapkfbjjeaaGreatDoorEyHa
import Derived.Test.YthdgnapkfbjjeaaGreatDoorCards
import Derived.Test.YthdgnapkfbjjeaaGreatDoorTie
import Derived.ProofKit
import Derived.LaidMore
import Derived.Lay
import Derived.OpenShut
import Derived.Stop.Joined
import Derived.SevenTiedAt
import Derived.Shelf.Vars
import Derived.HandedShaped
import Derived.Lib.SmallJoins
import Derived.Test.YthdgnapkfbjjeaaGreatDoorEvYf
set_option linter.unusedVariables false
set_option linter.unusedSimpArgs false
set_option linter.unusedSectionVars false
set_option maxRecDepth 100000
namespace Go.Ev
open Go.Proofs Go.Shelf
def worldGl (w : World) : Nat → Option (List Value) := fun g => match w.heap[g]? with | some (.cells cs _ _) => some cs.toList | _ => none
theorem worldGl_some {w : World} {g : Nat} {vs : List Value} (h : worldGl w g = some vs) : ∃ e fz, w.heap[g]? = some (.cells vs.toArray e fz) := by
 unfold worldGl at h
 split at h
 · rename_i cs e fz hg
   cases h
   exact ⟨e, fz, by rw [hg]⟩
 · cases h
def IntsW (w : World) (x : Value) (l : List Int) : Prop :=
 (x = .slice none 0 0 ∧ l = []) ∨ ∃ a cap, x = .slice (some a) l.length cap ∧ ∀ i, i < l.length → w.cell? (a.add i) = some (.int .i64 (l.getD i 0))
theorem cell_gl {w : World} {b off : Nat} {v : Value} (h : w.cell? ⟨b, off, none⟩ = some v) : ∃ vs, worldGl w b = some vs ∧ vs[off]? = some v := by
 unfold World.cell? at h
 unfold worldGl
 cases hb : w.heap[b]? with
 | none => simp [hb] at h
 | some o =>
   cases o with
   | cells cs e fz => simp [hb] at h; exact ⟨cs.toList, rfl, by simpa using h⟩
   | _ => simp [hb] at h
theorem IntsW.sl {w : World} {x : Value} {l : List Int} (h : IntsW w x l) : Sl ⟨0, .lf, worldGl w⟩ (.v x) (ivs l) := by
 rcases h with ⟨rfl, rfl⟩ | ⟨a, cap, rfl, h⟩
 · exact ⟨rfl, .inl rfl⟩
 · refine ⟨(ivs_length l).symm, ?_⟩
   cases l with
   | nil => exact .inl rfl
   | cons z l =>
     obtain ⟨b, off, spot⟩ := a
     have hs : spot = none := by simpa [Addr.add] using World.cell?_spot (h 0 (Nat.succ_pos _))
     subst hs
     obtain ⟨vs, hvs, _⟩ := cell_gl (show w.cell? ⟨b, off, none⟩ = _ from h 0 (Nat.succ_pos _))
     refine .inr ⟨b, off, vs, rfl, hvs, fun j v hv => ?_⟩
     simp only [ivs, List.getElem?_map, Option.map_eq_some_iff] at hv
     obtain ⟨y, hy, rfl⟩ := hv
     have hj := (List.getElem?_eq_some_iff.1 hy).1
     have hc := h j hj
     rw [addr_plus] at hc
     obtain ⟨vs', h1, h2⟩ := cell_gl hc
     rw [hvs] at h1
     cases h1
     exact ⟨_, h2, by simp [List.getD, hy]⟩
theorem IntsW.cap {w : World} {x : Value} {l : List Int} (h : IntsW w x l) (hc : ∀ a n c, x = .slice a n c → n ≤ c) : ∃ a n c, x = .slice a n c ∧ n ≤ c := by
 rcases h with ⟨rfl, _⟩ | ⟨a, cap, rfl, _⟩
 · exact ⟨none, 0, 0, rfl, Nat.le_refl _⟩
 · exact ⟨_, _, _, rfl, hc _ _ _ rfl⟩
end Go.Ev
namespace Go.Proofs.YthdgnapkfbjjeaaGreatDoor
open Go.ChangeShapes Go.WideShapes Go.ChangeAt Go.WideMaps Go.WideElems Go.RowKit Go.Ev
theorem own : ownKnob Tryz.prog.godebug = none := by kernel_rfl
theorem laidOut : laidOutB Tryz.prog = true := by kernel_rfl
theorem gPow : Tryz.prog.globalNamed "internal/strconv.uint64pow10" = some 0 := by kernel_rfl
theorem tPow : (Tryz.prog.globals[0]?).map (·.type) = some 263 := by kernel_rfl
theorem cells205 : Tryz.prog.cellsOf 205 = 1 := by kernel_rfl
theorem cells263 : Tryz.prog.cellsOf 263 = 20 := by kernel_rfl
theorem cells3 : Tryz.prog.cellsOf 3 = 1 := by kernel_rfl
theorem cells4 : Tryz.prog.cellsOf 4 = 1 := by kernel_rfl
theorem cells22 : Tryz.prog.cellsOf 22 = 1 := by kernel_rfl
theorem cells24 : Tryz.prog.cellsOf 24 = 4 := by kernel_rfl
theorem maxLen_of {W : World} (h : W.ShapedOpen Tryz.prog) : ∃ m, worldGl W 1 = some [.int .i64 m] := by
 obtain ⟨m, hm⟩ := Go.Proofs.cell_of_shapedOpen_int (P := Tryz.prog) (g := 1) (t := 3) (zero := #[.int .i64 0]) (k := .i64) h (of_decide_eq_true (by kernel_rfl)) (by kernel_rfl) rfl (by kernel_rfl) (by kernel_rfl) Tryz.underlying3
 obtain ⟨cs, hh, hs, _⟩ := h.1 1 #[.int .i64 0] 3 (of_decide_eq_true (by kernel_rfl)) (by kernel_rfl)
 have hs : cs.size = 1 := hs
 refine ⟨m, ?_⟩
 unfold World.cell? at hm
 rw [hh] at hm
 unfold worldGl
 rw [hh]
 obtain ⟨l⟩ := cs
 match l, hs with
 | [c], _ => simpa using hm
def laidL : List (String × DataW Unit) := Rows.machineMeetsRow.laid
theorem pow_data : (Rows.laid_internal_strconv_uint64pow10 : DataW Unit) = .agg ((List.range 20).map fun k => .lit (.int .u64 (10 ^ k))) := by kernel_rfl
theorem pow_of_laid {W : World} (h : laidMetH Tryz.prog laidL W) (hsh : W.ShapedOpen Tryz.prog) : gtest (worldGl W) = true := by
 have h1 := h.filter (fun x => x.1 == "internal/strconv.uint64pow10")
 rw [show (laidL.filter (fun x => x.1 == "internal/strconv.uint64pow10")) = [("internal/strconv.uint64pow10", Rows.laid_internal_strconv_uint64pow10)] by kernel_rfl, MakeChecks.laidMetH_plain _ _ _ (by kernel_rfl), pow_data] at h1
 obtain ⟨ps, ⟨g, t, cs, f, p, q, hg, ht, hv, hd, _, _⟩, _, _⟩ := h1
 obtain rfl := Option.some.inj (gPow.symm.trans hg)
 obtain rfl := Option.some.inj (tPow.symm.trans ht)
 obtain ⟨xs, m1, rfl, hx1, hlen, hn, hel⟩ := DataW.trod_array Tryz.underlying263 hd
 simp only [Prod.mk.injEq, DataW.agg.injEq] at hx1
 rw [cells263] at hlen
 have hcs : cs.toList = powL := by
   apply List.ext_getElem?
   intro i
   rcases Nat.lt_or_ge i 20 with hi | hi
   · have h2 := hel i hi
     rw [cells205, Nat.mul_one] at h2
     obtain ⟨x, hx⟩ : ∃ x, xs[i]? = some x := ⟨_, List.getElem?_eq_getElem (by omega)⟩
     have h3 : (xs.map (·.1))[i]? = some (DataW.lit (.int .u64 (10 ^ i))) := by rw [← hx1.1]; simp [hi]
     rw [List.getElem?_map, hx] at h3
     have h3 : x.1 = DataW.lit (.int .u64 (10 ^ i)) := by simpa using h3
     rw [hx] at h2
     obtain ⟨n, h4, h5, _⟩ := DataW.trod_int Tryz.underlying205 h2
     have h5 : x.1 = .lit (.int .u64 n) := by rw [h5]
     rw [h5] at h3
     have h6 : n = 10 ^ i := by simpa using h3
     have h7 : cs.toList[i]? = some (.int .u64 n) := by
       have : ((cs.toList.drop i).take 1)[0]? = some (.int .u64 n) := by rw [h4]; rfl
       simpa [List.getElem?_take, List.getElem?_drop] using this
     rw [h7, h6]
     simp [powL, hi]
   · rw [List.getElem?_eq_none (by omega), List.getElem?_eq_none (by simp [powL]; omega)]
 have hb : ∃ e fz, W.heap[0]? = some (.cells cs e fz) := by
   simp only [World.var?, hg, Option.bind_some] at hv
   split at hv
   · rename_i c e fz hh
     cases hv
     exact ⟨e, fz, hh⟩
   · cases hv
 obtain ⟨e, fz, hb⟩ := hb
 have hw : worldGl W 0 = some powL := by unfold worldGl; rw [hb, ← hcs]
 have hv : valsEq powL powL = true := by kernel_rfl
 obtain ⟨m, hm⟩ := maxLen_of hsh
 unfold gtest
 rw [hw]
 simp only [hv, hm]
section
variable {H : Type} {enc : TypeId × Value → H} {P : Program}
theorem post_below {f : Func} {s : ChangeSpec} {apart fresh handsOn again : Bool} {W W' : World} {args : Array Value} {v : Value} {ds gs : List (DataW H)} {before pa pv : List MemPlace}
   (hW : DataW.Whole enc P f.params.toList s.vars apart W args.toList ds gs before) (hb : Below W.heap.size W W')
   (hres : ∀ (b : Nat) (sp : Nat → Bool) (hd : Bool), DataW.TrodAll enc P W' b sp hd f.resultTypes.toList (v.resultList f.resultTypes.size) (s.fn H (ds ++ gs)).results [])
   (hargs : ∀ sp : Nat → Bool, (∀ p ∈ before, sp p.block = true) → DataW.TrodAll enc P W' 0 sp true f.params.toList args.toList (s.fn H (ds ++ gs)).args pa)
   (hvars : ∀ sp : Nat → Bool, (∀ p ∈ before, sp p.block = true) → DataW.TrodVars enc P W' sp s.vars (s.fn H (ds ++ gs)).vars pv)
   (hps : before = pa ++ pv)
   (hok : ∀ (j : Nat) (t : TypeId) (r : Value), f.resultTypes[j]? = some t → (v.resultList f.resultTypes.size)[j]? = some r → Value.okWide P W' .any 0 t r) :
   s.post enc P f apart fresh handsOn again W args v W' := by
 have hold : ∀ p ∈ before, (fun b => decide (b < W.heap.size)) p.block = true := fun p hp => by simpa using hW.lt p hp
 have hlt := hW.lt
 refine ⟨ds, gs, before, [], pa, pv, hW, hres _ _ _, hargs _ hold, hvars _ hold, World.keptBut_mono (fun p hp => ⟨hp, ?_⟩) (hb.frame (· ∈ before)), fun _ => ?_⟩
 · rw [hps, List.mem_append] at hp
   exact Or.inr hp
 · obtain ⟨_, _, _, _, _, hz, hn⟩ := hW
   refine ⟨hok, _, _, ([] ++ pa) ++ pv, ⟨[] ++ pa, pv, trodAll_append (hargs _ (fun _ _ => rfl)) (hres _ _ _), hvars _ (fun _ _ => rfl), rfl, ?_, ?_⟩, ?_⟩
   · intro b off hp
     have hp' : MemPlace.cell b off ∈ before := by rw [hps]; simpa using hp
     have := hlt _ hp'
     rw [hb.frozen (p := ⟨b, off, none⟩) this]
     exact hz b off hp'
   · intro ha
     have := hn ha
     rw [hps] at this
     simpa using this
   · intro p hp _
     rw [hps]
     simpa using hp
end
theorem slice_of {H : Type} {enc : TypeId × Value → H} {W : World} {v : Value} {x : DataW H × List MemPlace} {fuel : Nat} (hf : DataW.trod enc Tryz.prog W 0 (fun _ => true) true fuel 22 [v] = some x) : ∃ l, IntsW W v l ∧ ∃ a n c, v = .slice a n c ∧ n ≤ c := by
 rcases open_ints Tryz.underlying22 Tryz.underlying3 cells3 hf with ⟨hcs, _⟩ | ⟨a, len', cap', zs, hcs, _, hl, _, hz, _, hcell, _⟩
 · simp at hcs
   subst hcs
   exact ⟨[], .inl ⟨rfl, rfl⟩, _, _, _, rfl, Nat.le_refl _⟩
 · simp at hcs
   subst hcs
   simp only [if_true] at hz
   have hlen : (zs.take len').length = len' := by rw [List.length_take]; omega
   refine ⟨zs.take len', .inr ⟨a, cap', by rw [hlen], fun i hi => ?_⟩, _, _, _, rfl, hl⟩
   rw [hcell i (by omega)]
   congr 2
   simp only [List.getD, List.getElem?_take]
   rw [if_pos (by omega)]
theorem open_machine {H : Type} {enc : TypeId × Value → H} {W : World} {v : Value} {d : DataW H} {ps : List MemPlace} (h : DataW.Trod enc Tryz.prog W 0 (fun _ => true) true 24 v d ps) {base : Nat} (hval : Value.okWide Tryz.prog W .any base 24 v) :
   ∃ r g t s l, v = .agg #[.bool r, .int .i64 g, .int .i64 t, s] ∧ IntsW W s l ∧ ∃ a n c, s = .slice a n c ∧ n ≤ c := by
 obtain ⟨cs, rfl, hsz⟩ := okWide_struct Tryz.underlying24 hval
 rw [cells24] at hsz
 obtain ⟨c0, c1, c2, c3, rfl⟩ := Go.Joins.array4 hsz
 obtain ⟨fuel, hf⟩ := h
 have hf : DataW.trod enc Tryz.prog W 0 (fun _ => true) true fuel 24 [c0, c1, c2, c3] = some (d, ps) := by simpa [Value.cells] using hf
 obtain ⟨y0, y1, y2, y3, n, _, _, h0, h1, h2, h3⟩ := Go.Joins.trod_struct4 Tryz.underlying24 hf
 simp only [cells3, cells4, cells22] at h0 h1 h2 h3
 obtain ⟨r, e0, _⟩ := DataW.trod_bool Tryz.underlying4 h0
 obtain ⟨g, e1, _, _⟩ := DataW.trod_int Tryz.underlying3 h1
 obtain ⟨t, e2, _, _⟩ := DataW.trod_int Tryz.underlying3 h2
 simp at e0 e1 e2
 subst e0 e1 e2
 obtain ⟨l, hl, hc⟩ := slice_of (v := c3) (by simpa using h3)
 exact ⟨r, g, t, c3, l, rfl, hl, hc⟩
theorem returnsInHanded_and_shaped {H : Type} {enc : TypeId × Value → H} {a : Assume} {C : Checked} {os : Os} {f : FuncId} {fn : Func} {s : ChangeSpec} {conds : List PathCond} {apart fresh handsOn again : Bool} {X : World → Array Value → Prop}
   (hX : ∀ (w w' : World) (args : Array Value), w.heap = w'.heap → X w args → X w' args)
   (own : ownKnob C.prog.godebug = none) (started : os.Started) (noInit : C.prog.inits.idxOf? f = none) (hfn : C.prog.funcs[f]? = some fn)
   (witness : ∃ (w : World) (tape : Tape) (i : Input), w.os = os ∧ (w.forCall tape i).Shaped C.prog ∧ i.vars = [] ∧ Input.okWide C.prog (w.forCall tape i) .any w.heap.size f i ∧
     ((s.pre enc C.prog fn conds apart (w.forCall tape i).memory i.args ∧ X (w.forCall tape i).memory i.args) ∧ sizedMet enc C.prog fn (OpenSpec.ofChange s) apart (w.forCall tape i).memory i.args) ∧ a.holds C.prog (lone (Frame.enter C.prog f i.args .normal) [] (w.forCall tape i)))
   (contract : ∀ (W : World) (base : Nat) (args : Array Value) (ds gs : List (DataW H)) (before : List MemPlace),
     (∀ (j : Nat) t v, fn.params[j]? = some t → args[j]? = some v → Value.okWide C.prog W .any base t v) →
     DataW.Whole enc C.prog fn.params.toList s.vars apart W args.toList ds gs before →
     W.ShapedOpen C.prog → X W args →
     Calls C.prog f args W fun e W' => ∃ v, e = .returned v ∧ s.post enc C.prog fn apart fresh handsOn again W args v W') :
   ReturnsInHanded a C os f .any (fun w args => (s.pre enc C.prog fn conds apart w args ∧ X w args) ∧ sizedMet enc C.prog fn (OpenSpec.ofChange s) apart w args) (s.post enc C.prog fn apart fresh handsOn again) := by
 refine returnsInHanded_of_calls own started noInit witness ?_
 intro w tape i _ hsh _ hok hpre hholds
 obtain ⟨_, _, _, fn', hfn', _, _, _, _, hval⟩ := hok
 have e : fn' = fn := Option.some.inj (hfn'.symm.trans hfn)
 subst e
 obtain ⟨⟨⟨ds, gs, before, hw, hc⟩, hx⟩, hz⟩ := hpre
 have hw' := DataW.Whole.of_heap (w' := w.forCall tape i) (by rfl) hw
 refine (contract (w.forCall tape i) w.heap.size i.args ds gs before hval hw' hsh (hX _ _ _ (by rfl) hx)).mono fun e W' ⟨v, he, hp⟩ => ?_
 subst he
 exact ChangeSpec.post_blind hp
end Go.Proofs.YthdgnapkfbjjeaaGreatDoor
namespace Go.Ev
open Go.Proofs Go.Shelf
noncomputable def OWC : CallF := fun g args H => match Nat.beq g 14 with
 | true => (match args with | [] => (match gtest H.gl with | true => some (.v (.bool true), H) | false => none) | _ => none)
 | false => (match (Nat.beq g 64 || Nat.beq g 65) with | true => divO g args H | false => perO g args H)
theorem beq_cls {n g : Nat} (h : Nat.beq g n = false) : g ≠ n := fun e => by subst e; rw [Nat.beq_refl] at h; cases h
theorem perM_none {g : FuncId} {args : List AV} {H : AH} (h1 : g ≠ 131) (h2 : ¬ (133 ≤ g ∧ g ≤ 135)) (h3 : ¬ (63 ≤ g ∧ g ≤ 66)) (h4 : g ≠ 83) (h5 : g ≠ 84) : perM g args H = none := by
 have e3 : g ≠ 63 := fun e => h3 (by rw [e]; decide)
 have e5 : g ≠ 65 := fun e => h3 (by rw [e]; decide)
 have e6 : g ≠ 66 := fun e => h3 (by rw [e]; decide)
 have f3 : g ≠ 133 := fun e => h2 (by rw [e]; decide)
 have f4 : g ≠ 134 := fun e => h2 (by rw [e]; decide)
 have f5 : g ≠ 135 := fun e => h2 (by rw [e]; decide)
 unfold perM
 split
 · rw [if_neg (fun h => h1 h.1), if_neg (fun h => e6 h.1)]
 · rw [if_neg e3, if_neg h5]
 · rw [if_neg e5, if_neg h4]
 · rw [if_neg (fun h => f5 h.1)]
 · rw [if_neg (fun h => f4 h.1)]
 · rw [if_neg (fun h => f3 h.1)]
 · rfl
theorem OWC_quiet : Quiet OWC := fun g args H h => by
 obtain ⟨h, h84⟩ := Bool.or_eq_false_iff.1 h
 obtain ⟨h, h83⟩ := Bool.or_eq_false_iff.1 h
 obtain ⟨h, h63⟩ := Bool.or_eq_false_iff.1 h
 obtain ⟨h, h133⟩ := Bool.or_eq_false_iff.1 h
 obtain ⟨h, h131⟩ := Bool.or_eq_false_iff.1 h
 obtain ⟨h, h110⟩ := Bool.or_eq_false_iff.1 h
 obtain ⟨h14, h107⟩ := Bool.or_eq_false_iff.1 h
 have n133 : ¬ (133 ≤ g ∧ g ≤ 135) := fun h => by
   rw [Nat.ble_eq_true_of_le h.1, Nat.ble_eq_true_of_le h.2] at h133
   cases h133
 have n63 : ¬ (63 ≤ g ∧ g ≤ 66) := fun h => by
   rw [Nat.ble_eq_true_of_le h.1, Nat.ble_eq_true_of_le h.2] at h63
   cases h63
 have e4 : Nat.beq g 64 = false := by cases e : Nat.beq g 64 with
   | false => rfl
   | true => exact absurd (show 63 ≤ g ∧ g ≤ 66 by rw [Nat.eq_of_beq_eq_true e]; decide) n63
 have e5 : Nat.beq g 65 = false := by cases e : Nat.beq g 65 with
   | false => rfl
   | true => exact absurd (show 63 ≤ g ∧ g ≤ 66 by rw [Nat.eq_of_beq_eq_true e]; decide) n63
 unfold OWC
 rw [h14, e4, e5]
 simp only [Bool.or_self]
 unfold perO
 rw [perM_none (beq_cls h131) n133 n63 (beq_cls h83) (beq_cls h84)]
theorem not14 {g : Nat} (h : g ≠ 14) : Nat.beq g 14 = false := by
 cases hb : Nat.beq g 14 with
 | false => rfl
 | true => exact absurd (Nat.eq_of_beq_eq_true hb) h
theorem OWC_pers : Pers OWC := fun g args H h => by
 have h1 : Nat.beq g 14 = false := not14 fun e => by subst e; cases h
 have h4 : Nat.beq g 64 = false := by cases hb : Nat.beq g 64 with
   | false => rfl
   | true => have := Nat.eq_of_beq_eq_true hb; subst this; cases h
 have h5 : Nat.beq g 65 = false := by cases hb : Nat.beq g 65 with
   | false => rfl
   | true => have := Nat.eq_of_beq_eq_true hb; subst this; cases h
 unfold OWC
 rw [h1, h4, h5]
 rfl
theorem OWC_persD : PersD OWC := fun g args H => by
 refine ⟨fun h => ?_, fun h => ?_⟩
 · have h1 : Nat.beq g 14 = false := not14 fun e => by subst e; cases h
   unfold OWC
   rw [h1, h]
 · have := Nat.eq_of_beq_eq_true h
   subst this
   rfl
theorem OWC_ok : CallOk Tryz.prog OWC := by
 intro g args H r H' hc hle base ρ w vs hI hf hv
 unfold OWC at hc
 split at hc
 · rename_i hg
   have hg := Nat.eq_of_beq_eq_true hg
   subst hg
   split at hc
   · split at hc
     · rename_i hgt
       cases hc
       cases hv
       obtain ⟨m, hm⟩ := gtest_ok _ hgt
       exact callOk_plain (gl := gl0 m) (y := .bool true) (args := []) (fun w h => awake_call m w h) hI hm
     · cases hc
   · cases hc
 · split at hc
   · exact divO_ok g args H r H' hc hle base ρ w vs hI hf hv
   · exact perO_ok g args H r H' hc hle base ρ w vs hI hf hv
theorem OWC_awake {H : AH} (h : gtest H.gl = true) (H' : AH) (hg : H'.gl = H.gl) : OWC 14 [] H' = some (.v (.bool true), H') := by
 unfold OWC
 simp only [hg, h]
theorem law_callsC {g : FuncId} {args : List Value} (w : World) (h : Ca (ENV OWC) g (args.map .v) ⟨0, .lf, worldGl w⟩ fun r _ => r = .v (.bool true)) :
   Calls Tryz.prog g args.toArray w fun e w' => e = .returned (.bool true) ∧ RowKit.Below w.heap.size w w' := by
 obtain ⟨n, r, H', h1, rfl⟩ := h
 exact evCall_calls TF_ok OWC_ok mixed (plansT_all TPl_ok) (fun g vs hg => worldGl_some hg) h1
end Go.Ev
namespace Go.Ev
open Go.Proofs Go.Shelf
theorem machineCycles_calls (w : World) (hg : gtest (worldGl w) = true) (r : Bool) (g t : Int) (s : Value) (sw : List Int) (n : Int) (hs : IntsW w s sw) :
   Calls Tryz.prog 8 #[.agg #[.bool r, .int .i64 g, .int .i64 t, s], .int .i64 n] w fun e w' => e = .returned (.bool true) ∧ RowKit.Below w.heap.size w w' :=
 law_callsC (args := [.agg #[.bool r, .int .i64 g, .int .i64 t, s], .int .i64 n]) w (c8l OWC_quiet OWC_pers OWC_persD ⟨0, .lf, worldGl w⟩ (fun H' h => OWC_awake (H := ⟨0, .lf, worldGl w⟩) hg H' h) hg (.v (.agg #[.bool r, .int .i64 g, .int .i64 t, s])) (.v s) ⟨r, g, t, sw⟩ n rfl hs.sl (Old.v _) (fun b hb => by cases hb) (by show 0 + 17179869184 < 2 ^ 39; decide) _ fun _ => rfl)
end Go.Ev
namespace Go.Proofs.YthdgnapkfbjjeaaGreatDoor
open Go.ChangeShapes Go.WideShapes Go.ChangeAt Go.WideMaps Go.WideElems Go.RowKit Go.Ev
theorem liftedCycles (os : Os) (started : os.Started) (H : Type) (enc : TypeId × Value → H) :
   ReturnsInHanded {} Tryz.checked os 8 .any (fun w args => (Rows.machineCyclesSpec.pre enc Tryz.prog Tryz.f8 [] false w args ∧ laidMetH Tryz.prog laidL w) ∧ sizedMet enc Tryz.prog Tryz.f8 (OpenSpec.ofChange Rows.machineCyclesSpec) false w args)
     (Rows.machineCyclesSpec.post enc Tryz.prog Tryz.f8 false true false false) := by
 refine returnsInHanded_and_shaped (C := Tryz.checked) (X := fun w _ => laidMetH Tryz.prog laidL w) (fun _ _ _ hh h => h.of_heap hh) own started (by kernel_rfl) Tryz.func8
   (ChangeSpec.witness_shaped (enc := enc) (C := Tryz.checked) (os := os) (X := fun w _ => laidMetH Tryz.prog laidL w) false (World.laidAll Tryz.prog os laidL) #[.agg #[.bool false, .int .i64 0, .int .i64 0, .slice none 0 0], .int .i64 0] 8 (World.laidAll_os _ _ _)
     (World.shaped_of_ZipB (by kernel_rfl) (by kernel_rfl)) (by kernel_rfl) (by kernel_rfl) (by kernel_rfl)
     (by rw [MakeChecks.laidMetH_plain _ _ _ (by kernel_rfl)]; exact laidMet_laidAll _ (by kernel_rfl) (by kernel_rfl))) ?_
 intro W base args ds gs before hval0 hW hsh hL
 have hval : ∀ (j : Nat) t v, Tryz.f8.params[j]? = some t → args[j]? = some v → Value.okWide Tryz.prog W .any base t v := hval0
 have hW' := hW
 obtain ⟨p, q, hA0, hV, rfl, hfz, hnd⟩ := hW
 have hA : DataW.TrodAll enc Tryz.prog W 0 (fun _ => true) true Tryz.f8.params.toList args.toList ds p := hA0
 rw [Tryz.params8] at hA hval
 obtain ⟨v0, v1, d0, d1, p0, p1, rfl, rfl, rfl, h0, h1⟩ := trodAll_two hA
 obtain ⟨rfl, rfl⟩ := trodVars_none hV
 obtain ⟨r, g, t, s, sw, rfl, hs, _⟩ := open_machine h0 (hval 0 24 v0 rfl rfl)
 obtain ⟨n2, rfl, rfl, rfl, hw2⟩ := open_int Tryz.underlying3 (hval 1 3 v1 rfl rfl) h1
 clear hA0 hval0
 simp only [List.append_nil, List.nil_append] at hW'
 have hlt0 : ∀ x ∈ p0, x.block < W.heap.size := fun x hx => hW'.lt x (by simpa using hx)
 refine (machineCycles_calls W (pow_of_laid hL hsh) r g t s sw n2 hs).mono fun e W' ⟨he, hw⟩ => ?_
 subst he
 refine ⟨_, rfl, post_below (pa := p0 ++ []) (pv := []) hW' hw (fun _ _ _ => trodAll_mk1 (shut_bool Tryz.underlying4 _)) (fun sp hsp => ?_) (fun _ _ => rfl) (by simp) (ok_one (by kernel_rfl) rfl (okWide_bool_mk Tryz.underlying4 _))⟩
 exact trodAll_mk2
   (Trod_stays laidOut (by kernel_rfl) (of_decide_eq_true (by kernel_rfl)) h0 (fun x hx => hw.same (hlt0 x hx)) (fun x hx => hsp x (by simp [hx])))
   (shut_int Tryz.underlying3 hw2)
theorem closed8 : joinedFacts Tryz.pinned.checked.prog 8 Tryz.f8 Rows.machineCyclesSpec Rows.machineCyclesRow = true := by kernel_rfl
theorem isw8 : Tryz.f8.isWrapper Tryz.pinned.checked.prog Rows.machineCyclesRow.wrapper Rows.machineCyclesRow.mainSum := by unfold Func.isWrapper; first | (rw [if_pos (by decide +kernel)]; kernel_rfl) | (rw [if_neg (by decide +kernel)]; exact ⟨rfl, rfl⟩)
theorem isi8 : Tryz.f8.isInstance Tryz.pinned.checked.prog Rows.machineCyclesRow.origin Rows.machineCyclesRow.targs := (of_decide_eq_true (by kernel_rfl))
theorem fnn8 : Tryz.pinned.checked.prog.funcNamed Rows.machineCyclesRow.func = some 8 := by kernel_rfl
theorem lifted8 (os : Os) (started : os.Started) (H : Type) (enc : TypeId × Value → H) : ReturnsInHanded Rows.machineCyclesRow.assume Tryz.pinned.checked os 8 .any (Rows.machineCyclesRow.pre enc Tryz.pinned.checked.prog Tryz.f8 (OpenSpec.ofChange Rows.machineCyclesSpec)) (Rows.machineCyclesSpec.post enc Tryz.pinned.checked.prog Tryz.f8 Rows.machineCyclesRow.apart Rows.machineCyclesRow.fresh Rows.machineCyclesRow.handsOn Rows.machineCyclesRow.again) := liftedCycles os started H enc
theorem machineCycles_said : Rows.MachineCyclesSaid :=
 OpenClaim.holds_of_wide 8 Tryz.f8 rfl rfl rfl rfl rfl rfl rfl ⟨rfl, rfl, rfl, rfl, rfl⟩ rfl rfl rfl rfl rfl fnn8 Tryz.func8 closed8 isi8 isw8 (fun os started H enc _ => lifted8 os started H enc)
theorem wf8 : Rows.machineCyclesRow.wfByText (OpenSpec.ofChange Rows.machineCyclesSpec) = true := by kernel_rfl
theorem mainIs8 : Tryz.pinned.checked.prog.mainIs = some (true, "281cacaf51584f96e88fbb2a3af6950107cc09ef8c293d76f45ce3bc8c235e35".toList) := by kernel_rfl
theorem goes8 : false = Rows.machineCyclesRow.goesBy Tryz.pinned.checked.prog := by kernel_rfl
theorem looks8 : true = Tryz.pinned.checked.prog.looks [] := by kernel_rfl
theorem stand8 : ∀ (j : Nat) t, Tryz.f8.params[j]? = some t → Tryz.pinned.checked.prog.wantsStandIn t = false := fun j t ht => by
 rw [Tryz.params8] at ht
 have hm : t ∈ [24, 3] := by simpa using Array.mem_of_getElem? ht
 have hall : ([24, 3].all fun u => !Tryz.prog.wantsStandIn u) = true := by kernel_rfl
 exact (show Tryz.prog.wantsStandIn t = false by simpa using List.all_eq_true.1 hall t hm)
theorem machineCycles_holds : Rows.MachineCyclesCardSaid :=
 Claim7.holds_tied_plain_at .later [] [.data, .data, .data, .data, .sentinel, .sentinel, .pinned] true (true, "281cacaf51584f96e88fbb2a3af6950107cc09ef8c293d76f45ce3bc8c235e35") true
   machineCycles_said (fun _ h => by cases h) wf8 (fun _ h => by cases h) machineCycles_row_tie rfl ⟨rfl, rfl⟩ mainIs8 rfl
   (fun f fn hf hfn => by
     obtain rfl : f = 8 := Option.some.inj (fnn8.symm.trans hf) |>.symm
     obtain rfl : fn = Tryz.f8 := (Option.some.inj (Tryz.func8.symm.trans hfn)).symm
     exact ⟨looks8, stand8⟩)
   goes8

end Go.Proofs.YthdgnapkfbjjeaaGreatDoor
