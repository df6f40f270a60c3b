/- Part of an evaluator of calls that is proved sound, and of what it gives about this program. No condition of its own. -/
import Derived.Test.YtdpbhlkcliijnaaGreatDoorEwDa
set_option linter.unusedVariables false
set_option linter.unusedSimpArgs false
set_option linter.unusedSectionVars false
set_option maxRecDepth 100000
set_option maxHeartbeats 4000000
namespace Go.Ev
open Go.Proofs
section
variable {O : CallF} {T : List AV} {H H0 : AH} {ops : Array Oper} {o : Oper} {i : Nat} {π : List Stp}
theorem k_allocA {K : List AV → AH → Prop} {t : TypeId} {z : Value} {zs : List AV} (h1 : ops.toList[i]? = some o) (ho : o.op = .alloc t) (hg : wantedA o ops T = true) (hz : runPure Tryz.prog (zeroValue t) = some z) (hc : z.cells.toList.map .v = zs) (hr : H.next < 2 ^ 39)
   (hk : WK (ENV O) ops H0 π (putA T o.dst (.ptr H.next 0)) (H.add (.cells zs t 0)) K) : WK (ENV O) ops H0 (.alc i :: π) T H K := by
 have hlt : Nat.blt H.next (2 ^ 39) = true := Nat.ble_eq_true_of_le hr
 refine ⟨o, h1, .inr ⟨hg, none, zs, t, H.add (.cells zs t 0), ?_, ?_, hk⟩⟩
 · unfold laysA; rw [ho]
   simp only [ENV, hz, hc]
 · simp only [newA, hlt, if_true]
theorem k_makeFunc {K : List AV → AH → Prop} {f : Fn} {a b : Array Operand} (h1 : ops.toList[i]? = some o) (ho : o.op = .makeFunc f a b) (hg : wantedA o ops T = true) (hk : WK (ENV O) ops H0 π (putA T o.dst (.fn f (a.toList.map (av T)) (b.toList.map (av T)))) H K) : WK (ENV O) ops H0 (.mob i :: π) T H K :=
 k_mob h1 hg (by unfold mobEval; rw [ho]) (fun b hb => by rw [rdA_none (by unfold looksB; rw [ho])] at hb; cases hb) hk
class NetS (t : TypeId) : Prop where
 z : runPure Tryz.prog (zeroValue t) = some (.agg #[.int .i64 0, .slice none 0 0])
 u : runPure Tryz.prog (underlying t) = some (.struct (flds t))
 p : runPure Tryz.prog ((flds t).mapM fun f => do pure (f.offset, ← sizeOf f.type)) = some #[(0, 1), (1, 1)]
instance : NetS 67 := ⟨by kernel_rfl, by kernel_rfl, by kernel_rfl⟩
instance : NetS 74 := ⟨by kernel_rfl, by kernel_rfl, by kernel_rfl⟩
def Mr (H : AH) (r : AV) (l : List Int) : Prop := (∃ b, r = .slc b 0 l.length l.length ∧ b < H.next ∧ b < 2 ^ 39 ∧ H.get b = some (.cells (ivs l) 3 0)) ∨ ∃ b, r = .slu b 0 l.length 1 ∧ b < H.next ∧ b < 2 ^ 39 ∧ H.get b = some (.cells (ivs l) 3 1)
theorem Mr.sl {r : AV} {l : List Int} (h : Mr H r l) : Sl H r (ivs l) := by
 rcases h with ⟨b, rfl, h1, h2, h3⟩ | ⟨b, rfl, h1, h2, h3⟩
 · exact ⟨(ivs_length l).symm, h2, _, _, _, h3, fun j v hv => by rw [Nat.zero_add]; exact hv⟩
 · exact ⟨(ivs_length l).symm, h2, rfl, _, _, _, h3, fun j v hv => by rw [Nat.zero_add]; exact hv⟩
theorem Mr.old {r : AV} {l : List Int} (h : Mr H r l) : Old H r := by
 rcases h with ⟨b, rfl, h1, h2, h3⟩ | ⟨b, rfl, h1, h2, h3⟩ <;> (intro c hc; cases hc; exact h1)
theorem Mr.lk {r : AV} {l : List Int} (h : Mr H r l) : ∀ b, r.own = some b → Lk H b := by
 rcases h with ⟨b, rfl, h1, h2, h3⟩ | ⟨b, rfl, h1, h2, h3⟩ <;> (intro c hc; cases hc; exact ⟨h1, by rw [h3]; simp [sameBlk, beqs_ivs]⟩)
theorem Mr.keep {H' : AH} {r : AV} {l : List Int} (h : Mr H r l) (k : Keeps H H') : Mr H' r l := by
 rcases h with ⟨b, h0, h1, h2, h3⟩ | ⟨b, h0, h1, h2, h3⟩
 · exact .inl ⟨b, h0, Nat.lt_of_lt_of_le h1 k.nx, h2, (k.get b h1).trans h3⟩
 · exact .inr ⟨b, h0, Nat.lt_of_lt_of_le h1 k.nx, h2, (k.get b h1).trans h3⟩
end
theorem first2n {a b : Int} (h : firstNZ [a, b] = 0) : a = 0 ∧ b = 0 := by
 unfold firstNZ at h
 by_cases ha : a = 0
 · refine ⟨ha, ?_⟩
   rw [if_neg (by simpa using ha)] at h
   unfold firstNZ at h
   by_cases hb : b = 0
   · exact hb
   · rw [if_pos hb] at h; exact h
 · rw [if_pos ha] at h; exact absurd h ha
theorem drop_consP {l : List (Int × Int)} {i : Nat} {z : Int × Int} (h : l[i]? = some z) : l.drop i = z :: l.drop (i + 1) := by
 have hl := (List.getElem?_eq_some_iff.1 h).1
 rw [List.drop_eq_getElem_cons hl]
 congr 1
 exact (List.getElem?_eq_some_iff.1 h).2
variable {O : CallF} (hq : Quiet O)
include hq
end Go.Ev
