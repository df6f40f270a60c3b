/- Part of an evaluator of calls that is proved sound, and of what it gives about this program. No condition of its own. -/
import Derived.Test.YtdpbhlkcliijnaaGreatDoorEvG10
import Derived.Test.YtdpbhlkcliijnaaGreatDoorEwHa
set_option linter.unusedVariables false
set_option linter.unusedSimpArgs false
set_option linter.unusedSectionVars false
set_option maxRecDepth 100000
namespace Go.Ev
open Go.Proofs Go.Shelf
def worldGl (w : World) : Nat → Option (List Value) := fun g => match w.heap[g]? with | some (.cells cs _ _) => some cs.toList | _ => none
theorem worldGl_some {w : World} {g : Nat} {vs : List Value} (h : worldGl w g = some vs) : ∃ e fz, w.heap[g]? = some (.cells vs.toArray e fz) := by
 unfold worldGl at h
 split at h
 · rename_i cs e fz hg
   cases h
   exact ⟨e, fz, by rw [hg]⟩
 · cases h
noncomputable def OW : CallF := fun g args H => match Nat.beq g 10 with
 | true => (match args with | [] => (match gtest H.gl with | true => some (.v (.bool true), H) | false => none) | _ => none)
 | false => none
theorem OW_quiet : Quiet OW := fun g args H h => by
 simp only [Bool.or_eq_false_iff] at h
 unfold OW
 rw [h.1.1]
theorem OW_ok : CallOk Tryz.prog OW := by
 intro g args H r H' hc hle base ρ w vs hI hf hv
 unfold OW at hc
 split at hc
 · rename_i hg
   have hg := Nat.eq_of_beq_eq_true hg
   subst hg
   split at hc
   · split at hc
     · rename_i hgt
       cases hc
       cases hv
       exact callOk_plain (gl := gl0) (y := .bool true) (args := []) (fun w h => awake_call w h) hI (gtest_ok _ hgt)
     · cases hc
   · cases hc
 · cases hc
theorem OW_awake {H : AH} (h : gtest H.gl = true) (H' : AH) (hg : H'.gl = H.gl) : OW 10 [] H' = some (.v (.bool true), H') := by
 unfold OW
 simp only [hg, h]
theorem law_calls {g : FuncId} {args : List Value} (w : World) (h : Ca (ENV OW) g (args.map .v) ⟨0, .lf, worldGl w⟩ fun r _ => r = .v (.bool true)) :
   Calls Tryz.prog g args.toArray w fun e w' => e = .returned (.bool true) ∧ RowKit.Below w.heap.size w w' := by
 obtain ⟨n, r, H', h1, rfl⟩ := h
 exact evCall_calls TF_ok OW_ok mixed (plansT_all TPl_ok) (fun g vs hg => worldGl_some hg) h1
def IntsW (w : World) (x : Value) (l : List Int) : Prop :=
 (x = .slice none 0 0 ∧ l = []) ∨ ∃ a cap, x = .slice (some a) l.length cap ∧ ∀ i, i < l.length → w.cell? (a.add i) = some (.int .i64 (l.getD i 0))
theorem cell_gl {w : World} {b off : Nat} {v : Value} (h : w.cell? ⟨b, off, none⟩ = some v) : ∃ vs, worldGl w b = some vs ∧ vs[off]? = some v := by
 unfold World.cell? at h
 unfold worldGl
 cases hb : w.heap[b]? with
 | none => simp [hb] at h
 | some o =>
   cases o with
   | cells cs e fz => simp [hb] at h; exact ⟨cs.toList, rfl, by simpa using h⟩
   | _ => simp [hb] at h
theorem IntsW.sl {w : World} {x : Value} {l : List Int} (h : IntsW w x l) : Sl ⟨0, .lf, worldGl w⟩ (.v x) (ivs l) := by
 rcases h with ⟨rfl, rfl⟩ | ⟨a, cap, rfl, h⟩
 · exact ⟨rfl, .inl rfl⟩
 · refine ⟨(ivs_length l).symm, ?_⟩
   cases l with
   | nil => exact .inl rfl
   | cons z l =>
     obtain ⟨b, off, spot⟩ := a
     have hs : spot = none := by simpa [Addr.add] using World.cell?_spot (h 0 (Nat.succ_pos _))
     subst hs
     obtain ⟨vs, hvs, _⟩ := cell_gl (show w.cell? ⟨b, off, none⟩ = _ from h 0 (Nat.succ_pos _))
     refine .inr ⟨b, off, vs, rfl, hvs, fun j v hv => ?_⟩
     simp only [ivs, List.getElem?_map, Option.map_eq_some_iff] at hv
     obtain ⟨y, hy, rfl⟩ := hv
     have hj := (List.getElem?_eq_some_iff.1 hy).1
     have hc := h j hj
     rw [addr_plus] at hc
     obtain ⟨vs', h1, h2⟩ := cell_gl hc
     rw [hvs] at h1
     cases h1
     exact ⟨_, h2, by simp [List.getD, hy]⟩
theorem IntsW.cap {w : World} {x : Value} {l : List Int} (h : IntsW w x l) (hc : ∀ a n c, x = .slice a n c → n ≤ c) : ∃ a n c, x = .slice a n c ∧ n ≤ c := by
 rcases h with ⟨rfl, _⟩ | ⟨a, cap, rfl, _⟩
 · exact ⟨none, 0, 0, rfl, Nat.le_refl _⟩
 · exact ⟨_, _, _, rfl, hc _ _ _ rfl⟩
end Go.Ev
