/- Part of an evaluator of calls that is proved sound, and of what it gives about this program. No condition of its own. -/
import Derived.Test.YtknbipaecnggcaaGreatDoorEvOa
import Derived.Test.YtknbipaecnggcaaGreatDoorEvTk
set_option linter.unusedVariables false
set_option linter.unusedSimpArgs false
set_option linter.unusedSectionVars false
set_option maxRecDepth 100000
namespace Go.Ev
open Go.Proofs Go.Shelf
noncomputable def OWT : CallF := orO OW libO
theorem lib_none {g : FuncId} {args : List AV} {H : AH} (h1 : Nat.beq g 125 = false) (h2 : Nat.beq g 116 = false) (h3 : Nat.beq g 128 = false) (h4 : Nat.beq g 129 = false) (h5 : Nat.beq g 170 = false) (h6 : Nat.beq g 177 = false) (h7 : Nat.beq g 157 = false) : libO g args H = none := by
 have e1 : joinO 125 g args H = none := by unfold joinO; rw [h1]
 have e2 : repO 116 g args H = none := by unfold repO; rw [h2]
 have e3 : delO 128 g args H = none := by unfold delO; rw [h3]
 have e4 : insR 129 g args H = none := by unfold insR; rw [h4]
 have e5 : growO 170 3 g args H = none := by unfold growO; rw [h5]
 have e6 : ccO 177 192 g args H = none := by unfold ccO; rw [h6]
 have e7 : bsO 157 192 5 g args H = none := by unfold bsO; rw [h7]
 simp only [libO, orO, e1, e2, e3, e4, e5, e6, e7]
theorem OWT_quiet : Quiet OWT := fun g args H h => by
 have h0 := OW_quiet g args H h
 simp only [Bool.or_eq_false_iff] at h
 obtain ⟨⟨⟨⟨⟨⟨⟨⟨⟨a1, a2⟩, a3⟩, a4⟩, a5⟩, a6⟩, a7⟩, a8⟩, a9⟩, a10⟩ := h
 simp only [OWT, orO, h0]
 exact lib_none a3 a2 a4 a5 a9 a10 a6
theorem OWT_ok : CallOk Tryz.prog OWT := orO_ok OW_ok libO_ok
theorem OWT_awake (H' : AH) : OWT 12 [] H' = some (.v (.bool true), H') := rfl
theorem OWT_grows : GrowsO OWT := fun H n h1 h2 h3 => by
 show (match growO 170 3 170 [.v (.slice none 0 0), .v (.int .i64 (Int.ofNat n))] H with | some r => some r | none => orO (ccO 177 192) (bsO 157 192 5) 170 [.v (.slice none 0 0), .v (.int .i64 (Int.ofNat n))] H) = _
 have e : growO 170 3 170 [.v (.slice none 0 0), .v (.int .i64 (Int.ofNat n))] H = some (.slu H.next 0 0 1, H.add (.cells [] 3 1)) := by
   unfold growO
   show (if Nat.ble 1 n && Nat.ble n 1000000 && Nat.ble (H.next + 1) (2 ^ 39) then some (AV.slu H.next 0 0 1, H.add (.cells [] 3 1)) else none) = _
   rw [if_pos (by simp only [Bool.and_eq_true]; exact ⟨⟨Nat.ble_eq_true_of_le h1, Nat.ble_eq_true_of_le h2⟩, Nat.ble_eq_true_of_le h3⟩)]
 rw [e]
theorem law_callsT {g : FuncId} {args : List Value} (w : World) (h : Ca (ENV OWT) g (args.map .v) ⟨0, .lf, worldGl w⟩ fun r _ => r = .v (.bool true)) :
   Calls Tryz.prog g args.toArray w fun e w' => e = .returned (.bool true) ∧ RowKit.Below w.heap.size w w' := by
 obtain ⟨n, r, H', h1, rfl⟩ := h
 exact evCall_calls TF_ok OWT_ok mixed (plansT_all TPl_ok) (fun g vs hg => worldGl_some hg) h1
end Go.Ev
