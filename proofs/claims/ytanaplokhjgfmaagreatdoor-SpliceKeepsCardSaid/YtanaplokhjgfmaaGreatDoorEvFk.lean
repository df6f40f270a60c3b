/- Part of an evaluator of calls that is proved sound, and of what it gives about this program. No condition of its own. -/
import Derived.Test.YtanaplokhjgfmaaGreatDoorEvFi
import Derived.Test.YtanaplokhjgfmaaGreatDoorEvFj
set_option linter.unusedVariables false
set_option linter.unusedSimpArgs false
set_option linter.unusedSectionVars false
set_option maxRecDepth 100000
set_option maxHeartbeats 8000000
namespace Go.Ev
open Go.Proofs
class FG (t : TypeId) (f : Nat) (off : outParam Nat) : Prop where
 h : ∀ b o, runPure Tryz.prog (Instr.fieldAt t (.pointer (some ⟨b, o, none⟩)) f) = some (.pointer (some ⟨b, o + off, none⟩))
instance : FG 28 0 0 := ⟨fun b o => by kernel_rfl⟩
section
variable {O : CallF} {T : List AV} {H H0 : AH} {ops : Array Oper} {o : Oper} {K : AV → AH → Prop}
theorem o_fieldR {t : TypeId} {f off : Nat} {x : Operand} {p : AV} {r : List AV} {v : AV} (ho : o.op = .fieldAddr t x f) (hg : wantedA o ops T = true) [hf : FA t f off] [hG : FG t f off] (hp : PtR H p r) (hx : av T x = p) (hv : r[off]? = some v) (hk : ∀ q, At H q v → K q H) : WOp (ENV O) ops o T H K := by
 have hol := (List.getElem?_eq_some_iff.1 hv).1
 rcases hp with ⟨b, off0, cs, e, g, rfl, h39, hgb, e1, e2⟩ | ⟨b, off0, vs, rfl, hgl, e1, e2⟩
 · refine wop_val (by rw [ho]; rfl) hg (H' := H) (r := .ptr b (off0 + off)) ?_ (Nat.le_refl _) (hk _ ⟨h39, cs, e, g, hgb, ?_⟩)
   · unfold opEval; rw [ho]
     simp only [ENV, oFieldAddr, hx, hf.h b off0, rv, Option.map_some]
   · rw [← e1, List.getElem?_take, if_pos hol, List.getElem?_drop] at hv
     exact hv
 · refine wop_val (by rw [ho]; rfl) hg (H' := H) (r := .v (.pointer (some ⟨b, off0 + off, none⟩))) ?_ (Nat.le_refl _) (hk _ ?_)
   · unfold opEval; rw [ho]
     have hp2 : plainOp Tryz.prog T H o = some (.val (.v (.pointer (some ⟨b, off0 + off, none⟩))) H) := by
       unfold plainOp
       rw [ho]
       simp only [Op.operands, execOp, ho, hx, AV.plain, Option.getD_some, runPure_bind, hG.h b off0, Option.bind_some, runPure_pure]
       simp [hx, AV.plain]
     simp only [ENV, oFieldAddr, hx]
     exact hp2
   · rw [← e1, List.getElem?_map, List.getElem?_take, if_pos hol, List.getElem?_drop] at hv
     cases hu : vs[off0 + off]? with
     | none => rw [hu] at hv; cases hv
     | some u => rw [hu] at hv; exact ⟨vs, u, hgl, hu, (Option.some.inj hv).symm⟩
end
theorem rpS_snoc {r : Ru} {tk gp : List Int} {k : Tk} (hl : lgE r tk gp k = 0) : ∀ {l : List Tk} {a b : List Int} {i : Nat}, rpS r a b i l = ((tk, gp), []) → rpS r a b i (l ++ [k]) = ((nxT tk k, nxG r gp k), [])
 | [], a, b, i, h => by
   have h : ((a, b), ([] : List (Int × Int))) = ((tk, gp), []) := h
   cases h
   show (if lgE r tk gp k = 0 then rpS r (nxT tk k) (nxG r gp k) (i + 1) [] else _) = _
   rw [if_pos hl]; rfl
 | q :: l, a, b, i, h => by
   rw [rpS] at h
   by_cases hq : lgE r a b q = 0
   · rw [if_pos hq] at h
     show (if lgE r a b q = 0 then rpS r (nxT a q) (nxG r b q) (i + 1) (l ++ [k]) else _) = _
     rw [if_pos hq]
     exact rpS_snoc hl h
   · rw [if_neg hq] at h
     have := congrArg (fun x => x.2) h
     simp at this
structure KpS (He : AH) (sb : Nat) (r : Ru) (ks : List Tk) (tkS gpS : List Int) (N0 i : Nat) (H : AH) (p q rr : AV) (tk gp : List Int) (kk : List Tk) (ag : Nat) : Prop where
 kp : Keeps He H
 nx : H.next ≤ N0 + 30000 * i
 n1 : sb < H.next
 gs : Bk H sb 26 [p, q]
 hp : Ky H p tk
 hq : Ky H q gp
 hG : GR H 28 3 rr (tks kk)
 fr : ∀ b, p.own = some b ∨ q.own = some b → b ≠ sb
 fg : ∀ b, rr.own = some b → He.next ≤ b ∧ b ≠ sb
 dj : ∀ b, rr.own = some b → p.own ≠ some b ∧ q.own ≠ some b
 sta : staE r tk gp = 0
 kl : kk.length ≤ i
 al : ag ≤ i
 e1 : (rpS r tkS gpS 0 ks).1 = (rpS r tk gp i (ks.drop i)).1
 e2 : (rpS r tkS gpS 0 ks).2.length = ag + (rpS r tk gp i (ks.drop i)).2.length
 e3 : rpS r tkS gpS 0 kk = ((tk, gp), [])
 kt : ∀ k ∈ kk, tukE r k = 0
theorem lgE_rg {r : Ru} {tk gp : List Int} {k : Tk} : 0 ≤ lgE r tk gp k ∧ lgE r tk gp k ≤ 4 := by
 unfold lgE legE
 split
 · split
   · split
     · split <;> decide
     · decide
   · decide
 · decide
variable {O : CallF} (hq : Quiet O)
include hq
theorem c6l (H : AH) (hA : ∀ H', H'.gl = H.gl → O 10 [] H' = some (.v (.bool true), H')) (r : Ru) (rv yv : AV) (ks : List Tk) (hrv : rv.cells = r.cs) (hy : Ks H yv ks) (hy1 : yv.one = true) (hr : H.next ≤ 1000) (K : AV → AH → Prop) (hk : ∀ H', K (.v (.bool true)) H') : Ca (ENV O) 6 [rv, yv] H K := by
 refine ca_intro (hq _ _ _ rfl) (fn := Tryz.f6) (by rfl) rfl ?_
 have r0 : H.next < 2 ^ 59 := by omega
 repeat (first | apply qR | apply qS)
 refine wops_cons (o_boxS (cs := r.cs) rfl rfl hrv r0 fun H1 n1 k1 b1 => ?_)
 have r1 : H1.next < 2 ^ 59 := by omega
 repeat (first | apply qN | refine qM rfl rfl ?_ | refine zqb rfl rfl rfl ‹_› ?_ | apply qR | apply qS)
 refine wops_cons (o_allocA (zs := [iv 0, iv 0, iv 0, iv 0, iv 0]) rfl rfl (z := .agg #[.int .i64 0, .int .i64 0, .int .i64 0, .int .i64 0, .int .i64 0]) (by kernel_rfl) rfl r1 ?_)
 refine wops_cons (o_storeA (n := 5) (vs := r.cs) rfl rfl (by kernel_rfl) rfl rfl rfl rfl (get_add_eq r1) (Nat.le_refl _) ?_)
 refine WOps.mem (fun H2 => Keeps H1 H2 ∧ H2.next = H1.next + 1 ∧ Bk H2 H1.next 29 r.cs) ⟨((Keeps.refl H1).add _ r1).set _ (Nat.le_refl _) r1, rfl, ⟨r1, get_set_eq r1⟩⟩ ?_
 rintro H2 ⟨k2, n2, b2⟩
 have x1 := k1.nx
 have x2 := k2.nx
 have b1 := b1.keep (by omega) k2
 have k02 := k1.trans k2
 have gl2 : H2.gl = H.gl := k02.gl
 have hy2 := hy.keep k02
 generalize hRB : H.next = RB at b1 n1 hr x1 ⊢
 generalize hXB : H1.next = XB at b2 n2 x2 ⊢
 have hRl : RB < H2.next := by omega
 have hXl : XB < H2.next := by omega
 have hn2 : H2.next ≤ 1002 := by omega
 clear k1 k2 k02 hRB hXB n1 n2 x1 x2 r0 r1 hy hrv
 show WOps _ _ _ _ _ _
 repeat (first | apply qN | apply qS)
 refine Wp.cut (fun T => ∃ Y : List AV, T = (lget Y 0 :: yv :: .ptr RB 0 :: lget Y 1 :: .v (.bool false) :: .ptr XB 0 :: lget Y 2 :: lget Y 3 :: lget Y 4 :: lget Y 5 :: lget Y 6 :: lget Y 7 :: lget Y 8 :: lget Y 9 :: lget Y 10 :: lget Y 11 :: lget Y 12 :: lget Y 13 :: lget Y 14 :: lget Y 15 :: lget Y 16 :: lget Y 17 :: lget Y 18 :: lget Y 19 :: lget Y 20 :: lget Y 21 :: lget Y 22 :: lget Y 23 :: lget Y 24 :: lget Y 25 :: lget Y 26 :: lget Y 27 :: lget Y 28 :: lget Y 29 :: lget Y 30 :: lget Y 31 :: lget Y 32 :: lget Y 33 :: lget Y 34 :: lget Y 35 :: lget Y 36 :: lget Y 37 :: lget Y 38 :: lget Y 39 :: lget Y 40 :: lget Y 41 :: lget Y 42 :: lget Y 43 :: lget Y 44 :: lget Y 45 :: lget Y 46 :: lget Y 47 :: lget Y 48 :: lget Y 49 :: lget Y 50 :: lget Y 51 :: lget Y 52 :: lget Y 53 :: lget Y 54 :: lget Y 55 :: lget Y 56 :: lget Y 57 :: lget Y 58 :: lget Y 59 :: lget Y 60 :: lget Y 61 :: lget Y 62 :: lget Y 63 :: lget Y 64 :: lget Y 65 :: lget Y 66 :: lget Y 67 :: lget Y 68 :: lget Y 69 :: lget Y 70 :: lget Y 71 :: lget Y 72 :: lget Y 73 :: lget Y 74 :: lget Y 75 :: lget Y 76 :: lget Y 77 :: lget Y 78 :: lget Y 79 :: lget Y 80 :: lget Y 81 :: lget Y 82 :: lget Y 83 :: lget Y 84 :: lget Y 85 :: lget Y 86 :: lget Y 87 :: lget Y 88 :: lget Y 89 :: lget Y 90 :: lget Y 91 :: lget Y 92 :: lget Y 93 :: lget Y 94 :: lget Y 95 :: lget Y 96 :: lget Y 97 :: lget Y 98 :: lget Y 99 :: lget Y 100 :: lget Y 101 :: lget Y 102 :: lget Y 103 :: lget Y 104 :: lget Y 105 :: lget Y 106 :: lget Y 107 :: lget Y 108 :: lget Y 109 :: lget Y 110 :: lget Y 111 :: lget Y 112 :: lget Y 113 :: lget Y 114 :: lget Y 115 :: lget Y 116 :: lget Y 117 :: lget Y 118 :: lget Y 119 :: lget Y 120 :: lget Y 121 :: lget Y 122 :: lget Y 123 :: lget Y 124 :: lget Y 125 :: lget Y 126 :: lget Y 127 :: lget Y 128 :: lget Y 129 :: lget Y 130 :: lget Y 131 :: lget Y 132 :: lget Y 133 :: lget Y 134 :: lget Y 135 :: lget Y 136 :: lget Y 137 :: lget Y 138 :: lget Y 139 :: lget Y 140 :: lget Y 141 :: lget Y 142 :: lget Y 143 :: lget Y 144 :: lget Y 145 :: lget Y 146 :: lget Y 147 :: lget Y 148 :: lget Y 149 :: lget Y 150 :: lget Y 151 :: lget Y 152 :: lget Y 153 :: lget Y 154 :: lget Y 155 :: lget Y 156 :: lget Y 157 :: lget Y 158 :: lget Y 159 :: lget Y 160 :: lget Y 161 :: lget Y 162 :: lget Y 163 :: lget Y 164 :: lget Y 165 :: lget Y 166 :: lget Y 167 :: lget Y 168 :: lget Y 169 :: lget Y 170 :: lget Y 171 :: lget Y 172 :: lget Y 173 :: lget Y 174 :: lget Y 175 :: lget Y 176 :: lget Y 177 :: lget Y 178 :: lget Y 179 :: lget Y 180 :: lget Y 181 :: lget Y 182 :: lget Y 183 :: lget Y 184 :: lget Y 185 :: lget Y 186 :: lget Y 187 :: lget Y 188 :: lget Y 189 :: lget Y 190 :: lget Y 191 :: lget Y 192 :: lget Y 193 :: lget Y 194 :: lget Y 195 :: lget Y 196 :: lget Y 197 :: lget Y 198 :: lget Y 199 :: lget Y 200 :: lget Y 201 :: lget Y 202 :: lget Y 203 :: lget Y 204 :: lget Y 205 :: lget Y 206 :: lget Y 207 :: lget Y 208 :: lget Y 209 :: lget Y 210 :: lget Y 211 :: lget Y 212 :: lget Y 213 :: lget Y 214 :: lget Y 215 :: lget Y 216 :: lget Y 217 :: lget Y 218 :: lget Y 219 :: lget Y 220 :: lget Y 221 :: lget Y 222 :: lget Y 223 :: lget Y 224 :: lget Y 225 :: lget Y 226 :: lget Y 227 :: lget Y 228 :: lget Y 229 :: lget Y 230 :: lget Y 231 :: lget Y 232 :: lget Y 233 :: lget Y 234 :: lget Y 235 :: lget Y 236 :: [])) ⟨[_,_,_,_,_,_,_,_,_,_,_,_,_,_,_,_,_,_,_,_,_,_,_,_,_,_,_,_,_,_,_,_,_,_,_,_,_,_,_,_,_,_,_,_,_,_,_,_,_,_,_,_,_,_,_,_,_,_,_,_,_,_,_,_,_,_,_,_,_,_,_,_,_,_,_,_,_,_,_,_,_,_,_,_,_,_,_,_,_,_,_,_,_,_,_,_,_,_,_,_,_,_,_,_,_,_,_,_,_,_,_,_,_,_,_,_,_,_,_,_,_,_,_,_,_,_,_,_,_,_,_,_,_,_,_,_,_,_,_,_,_,_,_,_,_,_,_,_,_,_,_,_,_,_,_,_,_,_,_,_,_,_,_,_,_,_,_,_,_,_,_,_,_,_,_,_,_,_,_,_,_,_,_,_,_,_,_,_,_,_,_,_,_,_,_,_,_,_,_,_,_,_,_,_,_,_,_,_,_,_,_,_,_,_,_,_,_,_,_,_,_,_,_,_,_,_,_,_,_,_,_,_,_,_,_,_,_], rfl⟩ ?_
 rintro T ⟨Y, rfl⟩
 refine wp_drawK rfl ?_
 refine WK.mono (K := fun T' H' => Keeps H2 H' ∧ H'.next ≤ H2.next + 2000 ∧ ∃ (bb : Bool) (Y : List AV), (bb = false → ks.length ≤ 40 ∧ ruE r = 0 ∧ tksE r ks = 0) ∧ T' = (lget Y 0 :: yv :: .ptr RB 0 :: lget Y 1 :: .v (.bool false) :: .ptr XB 0 :: lget Y 2 :: lget Y 3 :: lget Y 4 :: lget Y 5 :: lget Y 6 :: lget Y 7 :: lget Y 8 :: lget Y 9 :: lget Y 10 :: lget Y 11 :: lget Y 12 :: lget Y 13 :: lget Y 14 :: lget Y 15 :: lget Y 16 :: lget Y 17 :: lget Y 18 :: lget Y 19 :: lget Y 20 :: lget Y 21 :: lget Y 22 :: lget Y 23 :: lget Y 24 :: lget Y 25 :: lget Y 26 :: lget Y 27 :: lget Y 28 :: lget Y 29 :: lget Y 30 :: lget Y 31 :: lget Y 32 :: lget Y 33 :: lget Y 34 :: lget Y 35 :: lget Y 36 :: lget Y 37 :: lget Y 38 :: lget Y 39 :: lget Y 40 :: lget Y 41 :: .v (.bool bb) :: lget Y 42 :: lget Y 43 :: lget Y 44 :: lget Y 45 :: lget Y 46 :: lget Y 47 :: lget Y 48 :: lget Y 49 :: lget Y 50 :: lget Y 51 :: lget Y 52 :: lget Y 53 :: lget Y 54 :: lget Y 55 :: lget Y 56 :: lget Y 57 :: lget Y 58 :: lget Y 59 :: lget Y 60 :: lget Y 61 :: lget Y 62 :: lget Y 63 :: lget Y 64 :: lget Y 65 :: lget Y 66 :: lget Y 67 :: lget Y 68 :: lget Y 69 :: lget Y 70 :: lget Y 71 :: lget Y 72 :: lget Y 73 :: lget Y 74 :: lget Y 75 :: lget Y 76 :: lget Y 77 :: lget Y 78 :: lget Y 79 :: lget Y 80 :: lget Y 81 :: lget Y 82 :: lget Y 83 :: lget Y 84 :: lget Y 85 :: lget Y 86 :: lget Y 87 :: lget Y 88 :: lget Y 89 :: lget Y 90 :: lget Y 91 :: lget Y 92 :: lget Y 93 :: lget Y 94 :: lget Y 95 :: lget Y 96 :: lget Y 97 :: lget Y 98 :: lget Y 99 :: lget Y 100 :: lget Y 101 :: lget Y 102 :: lget Y 103 :: lget Y 104 :: lget Y 105 :: lget Y 106 :: lget Y 107 :: lget Y 108 :: lget Y 109 :: lget Y 110 :: lget Y 111 :: lget Y 112 :: lget Y 113 :: lget Y 114 :: lget Y 115 :: lget Y 116 :: lget Y 117 :: lget Y 118 :: lget Y 119 :: lget Y 120 :: lget Y 121 :: lget Y 122 :: lget Y 123 :: lget Y 124 :: lget Y 125 :: lget Y 126 :: lget Y 127 :: lget Y 128 :: lget Y 129 :: lget Y 130 :: lget Y 131 :: lget Y 132 :: lget Y 133 :: lget Y 134 :: lget Y 135 :: lget Y 136 :: lget Y 137 :: lget Y 138 :: lget Y 139 :: lget Y 140 :: lget Y 141 :: lget Y 142 :: lget Y 143 :: lget Y 144 :: lget Y 145 :: lget Y 146 :: lget Y 147 :: lget Y 148 :: lget Y 149 :: lget Y 150 :: lget Y 151 :: lget Y 152 :: lget Y 153 :: lget Y 154 :: lget Y 155 :: lget Y 156 :: lget Y 157 :: lget Y 158 :: lget Y 159 :: lget Y 160 :: lget Y 161 :: lget Y 162 :: lget Y 163 :: lget Y 164 :: lget Y 165 :: lget Y 166 :: lget Y 167 :: lget Y 168 :: lget Y 169 :: lget Y 170 :: lget Y 171 :: lget Y 172 :: lget Y 173 :: lget Y 174 :: lget Y 175 :: lget Y 176 :: lget Y 177 :: lget Y 178 :: lget Y 179 :: lget Y 180 :: lget Y 181 :: lget Y 182 :: lget Y 183 :: lget Y 184 :: lget Y 185 :: lget Y 186 :: lget Y 187 :: lget Y 188 :: lget Y 189 :: lget Y 190 :: lget Y 191 :: lget Y 192 :: lget Y 193 :: lget Y 194 :: lget Y 195 :: lget Y 196 :: lget Y 197 :: lget Y 198 :: lget Y 199 :: lget Y 200 :: lget Y 201 :: lget Y 202 :: lget Y 203 :: lget Y 204 :: lget Y 205 :: lget Y 206 :: lget Y 207 :: lget Y 208 :: lget Y 209 :: lget Y 210 :: lget Y 211 :: lget Y 212 :: lget Y 213 :: lget Y 214 :: lget Y 215 :: lget Y 216 :: lget Y 217 :: lget Y 218 :: lget Y 219 :: lget Y 220 :: lget Y 221 :: lget Y 222 :: lget Y 223 :: lget Y 224 :: lget Y 225 :: lget Y 226 :: lget Y 227 :: lget Y 228 :: lget Y 229 :: lget Y 230 :: lget Y 231 :: lget Y 232 :: lget Y 233 :: lget Y 234 :: lget Y 235 :: [])) ?_ ?_
 rotate_left
 · refine k_call rfl rfl rfl (fun b h => by cases h) (wop_callF rfl rfl rfl (fn := Tryz.f10) (by rfl) ?_)
   refine ca_oracle (hA _ gl2) ⟨Nat.le_refl _, Keeps.refl _, ?_⟩
   refine k_not rfl rfl rfl rfl ?_
   refine k_move rfl rfl rfl ?_
   refine k_move rfl rfl rfl ?_
   refine k_loud rfl rfl (o_lenR rfl rfl rfl rfl rfl hy2.sl ⟨Keeps.refl _, ?_⟩)
   rw [tks_length]
   by_cases h40 : (ks.length : Int) > 40
   · refine k_bin (op := .gtr) (v := .bool true) rfl rfl rfl rfl rfl (by simp [binI]; omega) ?_
     repeat (first | refine k_skip rfl rfl ?_ | refine k_move rfl rfl rfl ?_ | refine k_pick rfl rfl rfl rfl ?_)
     refine k_loudSkip rfl rfl (Keeps.refl _) ?_
     repeat (first | refine k_skip rfl rfl ?_ | refine k_move rfl rfl rfl ?_ | refine k_pick rfl rfl rfl rfl ?_)
     refine k_loudSkip rfl rfl (Keeps.refl _) ?_
     refine k_loudSkip rfl rfl (Keeps.refl _) ?_
     repeat (first | refine k_nil ?_ | refine k_skip rfl rfl ?_ | refine k_pick rfl rfl rfl rfl ?_)
     exact ⟨Keeps.refl _, by omega, true, [_,_,_,_,_,_,_,_,_,_,_,_,_,_,_,_,_,_,_,_,_,_,_,_,_,_,_,_,_,_,_,_,_,_,_,_,_,_,_,_,_,_,_,_,_,_,_,_,_,_,_,_,_,_,_,_,_,_,_,_,_,_,_,_,_,_,_,_,_,_,_,_,_,_,_,_,_,_,_,_,_,_,_,_,_,_,_,_,_,_,_,_,_,_,_,_,_,_,_,_,_,_,_,_,_,_,_,_,_,_,_,_,_,_,_,_,_,_,_,_,_,_,_,_,_,_,_,_,_,_,_,_,_,_,_,_,_,_,_,_,_,_,_,_,_,_,_,_,_,_,_,_,_,_,_,_,_,_,_,_,_,_,_,_,_,_,_,_,_,_,_,_,_,_,_,_,_,_,_,_,_,_,_,_,_,_,_,_,_,_,_,_,_,_,_,_,_,_,_,_,_,_,_,_,_,_,_,_,_,_,_,_,_,_,_,_,_,_,_,_,_,_,_,_,_,_,_,_,_,_,_,_,_,_,_,_], (fun e => by cases e), rfl⟩
   refine k_bin (op := .gtr) (v := .bool false) rfl rfl rfl rfl rfl (by simp [binI]; omega) ?_
   refine k_pick rfl rfl rfl rfl ?_
   refine k_move rfl rfl rfl ?_
   refine k_load4 rfl rfl rfl rfl b2 (lkP (n := 0) b2 hXl (ru_beq r)) ?_
   refine k_call rfl rfl rfl (fun b h => by cases h) (wop_callF rfl rfl rfl (fn := Tryz.f13) (by rfl) ?_)
   refine c13 hq H2 r _ rfl (by omega) _ fun H3 k3 n3 => ⟨k3.nx, k3, ?_⟩
   by_cases h0 : ruE r = 0
   rotate_left
   · generalize ruE r = w at h0 ⊢
     refine k_bin (op := .neq) (v := .bool true) rfl rfl rfl rfl rfl (by simp [binI, h0]) ?_
     repeat (first | refine k_skip rfl rfl ?_ | refine k_move rfl rfl rfl ?_ | refine k_pick rfl rfl rfl rfl ?_)
     refine k_loudSkip rfl rfl k3 ?_
     refine k_loudSkip rfl rfl k3 ?_
     repeat (first | refine k_nil ?_ | refine k_skip rfl rfl ?_ | refine k_pick rfl rfl rfl rfl ?_)
     exact ⟨k3, by omega, true, [_,_,_,_,_,_,_,_,_,_,_,_,_,_,_,_,_,_,_,_,_,_,_,_,_,_,_,_,_,_,_,_,_,_,_,_,_,_,_,_,_,_,_,_,_,_,_,_,_,_,_,_,_,_,_,_,_,_,_,_,_,_,_,_,_,_,_,_,_,_,_,_,_,_,_,_,_,_,_,_,_,_,_,_,_,_,_,_,_,_,_,_,_,_,_,_,_,_,_,_,_,_,_,_,_,_,_,_,_,_,_,_,_,_,_,_,_,_,_,_,_,_,_,_,_,_,_,_,_,_,_,_,_,_,_,_,_,_,_,_,_,_,_,_,_,_,_,_,_,_,_,_,_,_,_,_,_,_,_,_,_,_,_,_,_,_,_,_,_,_,_,_,_,_,_,_,_,_,_,_,_,_,_,_,_,_,_,_,_,_,_,_,_,_,_,_,_,_,_,_,_,_,_,_,_,_,_,_,_,_,_,_,_,_,_,_,_,_,_,_,_,_,_,_,_,_,_,_,_,_,_,_,_,_,_,_], (fun e => by cases e), rfl⟩
   rw [h0]
   refine k_bin (op := .neq) (v := .bool false) rfl rfl rfl rfl rfl rfl ?_
   refine k_pick rfl rfl rfl rfl ?_
   refine k_move rfl rfl rfl ?_
   refine k_load4 rfl rfl rfl rfl b2 (lkP (n := 0) b2 hXl (ru_beq r)) ?_
   refine k_move rfl rfl rfl ?_
   refine k_call rfl rfl rfl (fun b h => by cases h) (wop_callF rfl rfl rfl (fn := Tryz.f25) (by rfl) ?_)
   refine c25 hq H3 yv ks (hy2.keep k3).sl (hy2.keep k3).old (by omega) (by omega) _ fun H4 r4 k4 n4 hG4 _ => ⟨k4.nx, k3.trans k4, ?_⟩
   have x3 := k3.nx
   have x4 := k4.nx
   refine k_call rfl rfl rfl (fun b h => by cases h) (wop_callF rfl rfl rfl (fn := Tryz.f27) (by rfl) ?_)
   refine c27 hq H4 r _ r4 ks rfl hG4.ks h0 (by omega) (by omega) _ fun H5 k5 n5 => ⟨k5.nx, (k3.trans k4).trans k5, ?_⟩
   have x5 := k5.nx
   by_cases ht0 : tksE r ks = 0
   · rw [ht0]
     refine k_bin (op := .neq) (v := .bool false) rfl rfl rfl rfl rfl rfl ?_
     repeat (first | refine k_nil ?_ | refine k_pick rfl rfl rfl rfl ?_)
     exact ⟨(k3.trans k4).trans k5, by omega, false, [_,_,_,_,_,_,_,_,_,_,_,_,_,_,_,_,_,_,_,_,_,_,_,_,_,_,_,_,_,_,_,_,_,_,_,_,_,_,_,_,_,_,_,_,_,_,_,_,_,_,_,_,_,_,_,_,_,_,_,_,_,_,_,_,_,_,_,_,_,_,_,_,_,_,_,_,_,_,_,_,_,_,_,_,_,_,_,_,_,_,_,_,_,_,_,_,_,_,_,_,_,_,_,_,_,_,_,_,_,_,_,_,_,_,_,_,_,_,_,_,_,_,_,_,_,_,_,_,_,_,_,_,_,_,_,_,_,_,_,_,_,_,_,_,_,_,_,_,_,_,_,_,_,_,_,_,_,_,_,_,_,_,_,_,_,_,_,_,_,_,_,_,_,_,_,_,_,_,_,_,_,_,_,_,_,_,_,_,_,_,_,_,_,_,_,_,_,_,_,_,_,_,_,_,_,_,_,_,_,_,_,_,_,_,_,_,_,_,_,_,_,_,_,_,_,_,_,_,_,_,_,_,_,_,_,_], (fun _ => ⟨by omega, by first | exact h0 | rfl, by first | exact ht0 | rfl⟩), rfl⟩
   · generalize tksE r ks = w at ht0 ⊢
     refine k_bin (op := .neq) (v := .bool true) rfl rfl rfl rfl rfl (by simp [binI, ht0]) ?_
     repeat (first | refine k_nil ?_ | refine k_pick rfl rfl rfl rfl ?_)
     exact ⟨(k3.trans k4).trans k5, by omega, true, [_,_,_,_,_,_,_,_,_,_,_,_,_,_,_,_,_,_,_,_,_,_,_,_,_,_,_,_,_,_,_,_,_,_,_,_,_,_,_,_,_,_,_,_,_,_,_,_,_,_,_,_,_,_,_,_,_,_,_,_,_,_,_,_,_,_,_,_,_,_,_,_,_,_,_,_,_,_,_,_,_,_,_,_,_,_,_,_,_,_,_,_,_,_,_,_,_,_,_,_,_,_,_,_,_,_,_,_,_,_,_,_,_,_,_,_,_,_,_,_,_,_,_,_,_,_,_,_,_,_,_,_,_,_,_,_,_,_,_,_,_,_,_,_,_,_,_,_,_,_,_,_,_,_,_,_,_,_,_,_,_,_,_,_,_,_,_,_,_,_,_,_,_,_,_,_,_,_,_,_,_,_,_,_,_,_,_,_,_,_,_,_,_,_,_,_,_,_,_,_,_,_,_,_,_,_,_,_,_,_,_,_,_,_,_,_,_,_,_,_,_,_,_,_,_,_,_,_,_,_,_,_,_,_,_,_], (fun e => by cases e), rfl⟩
 rintro T' H3 ⟨k3, n3, bb, Y, hbb, rfl⟩
 have gl3 : H3.gl = H.gl := k3.gl.trans gl2
 have x3 := k3.nx
 cases bb with
 | true =>
   show Wp _ _ _ _ _ _ _ _
   repeat (first | refine qT rfl ?_ | apply qR | apply qS)
   refine wops_cons (wop_callF rfl rfl rfl (fn := Tryz.f10) (by rfl) ?_)
   refine ca_oracle (hA _ gl3) ⟨Nat.le_refl _, ?_⟩
   repeat (first | apply qN | refine qM rfl rfl ?_)
   refine wp_ret ?_
   exact ⟨_, _, rfl, hk _⟩
 | false =>
 obtain ⟨h40, hru, htk0⟩ := hbb rfl
 obtain ⟨_, htk⟩ := tksE_0 htk0
 have hy3 := hy2.keep k3
 have b13 := b1.keep hRl k3
 have b23 := b2.keep hXl k3
 have hRl : RB < H3.next := by omega
 have hXl : XB < H3.next := by omega
 have hn3 : H3.next ≤ 4000 := by omega
 clear b1 b2 k3 n3 x3 hy2 hbb gl2
 show Wp _ _ _ _ _ _ _ _
 repeat (first | refine zqb rfl rfl rfl ‹_› ?_ | refine qF rfl ?_ | apply qR | apply qS | apply qK)
 refine wops_cons (wop_callF rfl rfl rfl (fn := Tryz.f12) (by rfl) ?_)
 refine c12 hq H3 r _ rfl (by omega) _ (fun h => absurd hru h) fun _ H4 b c n hn k4 n4 hM1 hM2 => ⟨k4.nx, ?_⟩
 have x4 := k4.nx
 have r4 : H4.next < 2 ^ 59 := by omega
 have hR := ruE_ok hru
 repeat (first | refine qM rfl rfl ?_ | refine zq9 rfl rfl rfl rfl ?_)
 refine wops_cons (o_allocA (zs := [.v (.slice none 0 0), .v (.slice none 0 0)]) rfl rfl (z := .agg #[.slice none 0 0, .slice none 0 0]) (by kernel_rfl) rfl r4 ?_)
 refine wops_cons (o_storeA (n := 2) (vs := [.slc b 0 n n, .slc c 0 n n]) rfl rfl (by kernel_rfl) rfl rfl rfl rfl (get_add_eq r4) (Nat.le_refl _) ?_)
 refine WOps.mem (fun H5 => Keeps H4 H5 ∧ H5.next = H4.next + 1 ∧ Bk H5 H4.next 26 [.slc b 0 n n, .slc c 0 n n]) ⟨((Keeps.refl H4).add _ r4).set _ (Nat.le_refl _) r4, rfl, ⟨r4, get_set_eq r4⟩⟩ ?_
 rintro H5 ⟨k5, n5, b5⟩
 have x5 := k5.nx
 show WOps _ _ _ _ _ _
 repeat (first | apply qN | refine qM rfl rfl ?_ | apply qR | apply qS)
 refine wops_cons (wop_bin (op := .neq) (v := .bool false) rfl rfl rfl rfl rfl ?_)
 repeat (first | apply qN | refine qM rfl rfl ?_ | refine qF rfl ?_ | apply qR | apply qS | apply qK)
 have k35 := k4.trans k5
 have hy5 := hy3.keep k35
 refine wops_cons (o_lenR rfl rfl rfl rfl rfl hy5.sl ?_)
 rw [tks_length]
 repeat (first | apply qN | refine qM rfl rfl ?_ | apply qB)
 have hMb := hM1.1
 have hMc := hM2.1
 have hsta := sta_start hru hn
 -- what is older than the states
 generalize hSB : H4.next = SB at b5 n5 ⊢
 have hS39 : SB < 2 ^ 59 := by omega
 have hI0 : KpS H4 SB r ks (List.replicate n 0) (nums n) H5.next 0 H5 (.slc b 0 n n) (.slc c 0 n n) (.v (.slice none 0 0)) (List.replicate n 0) (nums n) [] 0 :=
   ⟨k5, by omega, by omega, b5, (hM1.keep k5).ky List.length_replicate, (hM2.keep k5).ky (nums_len n), .inl ⟨rfl, rfl⟩, (fun d hd => by rcases hd with hd | hd <;> (cases hd; omega)), (fun d hd => by cases hd), (fun d hd => by cases hd), hsta, Nat.le_refl _, Nat.le_refl _, by simp, by simp, rfl, fun k hk => by simp at hk⟩
 have hn5 : H5.next ≤ 4100 := by omega
 have hy4 := hy3.keep k4
 have b14 := b13.keep hRl k4
 have b24 := b23.keep hXl k4
 have hRl : RB < H4.next := by omega
 have hXl : XB < H4.next := by omega
 have gl4 : H4.gl = H.gl := k4.gl.trans gl3
 have hS4 : H4.next = SB := hSB
 generalize hP0 : AV.slc b 0 n n = P0 at hI0 ⊢
 generalize hQ0 : AV.slc c 0 n n = Q0 at hI0 ⊢
 generalize hN0 : H5.next = N0 at hI0 hn5 ⊢
 clear hMb hMc b13 b23 hM1 hM2 b5 k5 k35 k4 hy3 hy5 n5 n4 x4 x5 hN0 gl3 r4 hP0 hQ0 hSB
 refine Wp.cut (fun T => ∃ Y : List AV, T = (lget Y 0 :: yv :: .ptr RB 0 :: lget Y 1 :: .v (.bool false) :: .ptr XB 0 :: .ptr SB 0 :: lget Y 2 :: .v (.slice none 0 0) :: iv 0 :: lget Y 3 :: lget Y 4 :: lget Y 5 :: lget Y 6 :: lget Y 7 :: lget Y 8 :: lget Y 9 :: lget Y 10 :: lget Y 11 :: lget Y 12 :: lget Y 13 :: lget Y 14 :: lget Y 15 :: lget Y 16 :: lget Y 17 :: lget Y 18 :: lget Y 19 :: lget Y 20 :: lget Y 21 :: lget Y 22 :: lget Y 23 :: lget Y 24 :: lget Y 25 :: lget Y 26 :: lget Y 27 :: lget Y 28 :: lget Y 29 :: lget Y 30 :: lget Y 31 :: lget Y 32 :: lget Y 33 :: lget Y 34 :: lget Y 35 :: lget Y 36 :: lget Y 37 :: lget Y 38 :: lget Y 39 :: lget Y 40 :: lget Y 41 :: lget Y 42 :: lget Y 43 :: lget Y 44 :: lget Y 45 :: lget Y 46 :: lget Y 47 :: yv :: iv (ks.length : Nat) :: iv 0 :: lget Y 48 :: lget Y 49 :: lget Y 50 :: lget Y 51 :: lget Y 52 :: lget Y 53 :: lget Y 54 :: lget Y 55 :: lget Y 56 :: lget Y 57 :: lget Y 58 :: lget Y 59 :: lget Y 60 :: lget Y 61 :: lget Y 62 :: lget Y 63 :: lget Y 64 :: lget Y 65 :: lget Y 66 :: lget Y 67 :: lget Y 68 :: lget Y 69 :: lget Y 70 :: lget Y 71 :: lget Y 72 :: lget Y 73 :: lget Y 74 :: lget Y 75 :: lget Y 76 :: lget Y 77 :: lget Y 78 :: lget Y 79 :: lget Y 80 :: lget Y 81 :: lget Y 82 :: lget Y 83 :: lget Y 84 :: lget Y 85 :: lget Y 86 :: lget Y 87 :: lget Y 88 :: lget Y 89 :: lget Y 90 :: lget Y 91 :: lget Y 92 :: lget Y 93 :: lget Y 94 :: lget Y 95 :: lget Y 96 :: lget Y 97 :: lget Y 98 :: lget Y 99 :: lget Y 100 :: lget Y 101 :: lget Y 102 :: lget Y 103 :: lget Y 104 :: lget Y 105 :: lget Y 106 :: lget Y 107 :: lget Y 108 :: lget Y 109 :: lget Y 110 :: lget Y 111 :: lget Y 112 :: lget Y 113 :: lget Y 114 :: lget Y 115 :: lget Y 116 :: lget Y 117 :: lget Y 118 :: lget Y 119 :: lget Y 120 :: lget Y 121 :: lget Y 122 :: lget Y 123 :: lget Y 124 :: lget Y 125 :: lget Y 126 :: lget Y 127 :: lget Y 128 :: lget Y 129 :: lget Y 130 :: lget Y 131 :: lget Y 132 :: lget Y 133 :: lget Y 134 :: lget Y 135 :: lget Y 136 :: lget Y 137 :: lget Y 138 :: lget Y 139 :: lget Y 140 :: lget Y 141 :: lget Y 142 :: lget Y 143 :: lget Y 144 :: lget Y 145 :: lget Y 146 :: lget Y 147 :: lget Y 148 :: lget Y 149 :: lget Y 150 :: lget Y 151 :: lget Y 152 :: lget Y 153 :: lget Y 154 :: lget Y 155 :: lget Y 156 :: lget Y 157 :: lget Y 158 :: lget Y 159 :: lget Y 160 :: lget Y 161 :: lget Y 162 :: lget Y 163 :: lget Y 164 :: lget Y 165 :: lget Y 166 :: lget Y 167 :: lget Y 168 :: lget Y 169 :: lget Y 170 :: lget Y 171 :: lget Y 172 :: lget Y 173 :: lget Y 174 :: lget Y 175 :: lget Y 176 :: lget Y 177 :: lget Y 178 :: lget Y 179 :: lget Y 180 :: lget Y 181 :: lget Y 182 :: lget Y 183 :: lget Y 184 :: lget Y 185 :: lget Y 186 :: lget Y 187 :: lget Y 188 :: lget Y 189 :: lget Y 190 :: lget Y 191 :: lget Y 192 :: lget Y 193 :: lget Y 194 :: lget Y 195 :: lget Y 196 :: lget Y 197 :: lget Y 198 :: lget Y 199 :: lget Y 200 :: lget Y 201 :: lget Y 202 :: lget Y 203 :: lget Y 204 :: lget Y 205 :: lget Y 206 :: lget Y 207 :: lget Y 208 :: lget Y 209 :: lget Y 210 :: lget Y 211 :: lget Y 212 :: lget Y 213 :: lget Y 214 :: lget Y 215 :: lget Y 216 :: lget Y 217 :: lget Y 218 :: lget Y 219 :: lget Y 220 :: lget Y 221 :: lget Y 222 :: lget Y 223 :: lget Y 224 :: lget Y 225 :: lget Y 226 :: lget Y 227 :: lget Y 228 :: lget Y 229 :: lget Y 230 :: [])) ⟨[_,_,_,_,_,_,_,_,_,_,_,_,_,_,_,_,_,_,_,_,_,_,_,_,_,_,_,_,_,_,_,_,_,_,_,_,_,_,_,_,_,_,_,_,_,_,_,_,_,_,_,_,_,_,_,_,_,_,_,_,_,_,_,_,_,_,_,_,_,_,_,_,_,_,_,_,_,_,_,_,_,_,_,_,_,_,_,_,_,_,_,_,_,_,_,_,_,_,_,_,_,_,_,_,_,_,_,_,_,_,_,_,_,_,_,_,_,_,_,_,_,_,_,_,_,_,_,_,_,_,_,_,_,_,_,_,_,_,_,_,_,_,_,_,_,_,_,_,_,_,_,_,_,_,_,_,_,_,_,_,_,_,_,_,_,_,_,_,_,_,_,_,_,_,_,_,_,_,_,_,_,_,_,_,_,_,_,_,_,_,_,_,_,_,_,_,_,_,_,_,_,_,_,_,_,_,_,_,_,_,_,_,_,_,_,_,_,_,_,_,_,_,_,_,_,_,_,_,_,_,_], rfl⟩ ?_
 rintro T ⟨Y, rfl⟩
 refine wp_loop (fun m T M H' => ∃ (i ag : Nat) (p q rr : AV) (tk gp : List Int) (kk : List Tk) (Y : List AV), m = ks.length - i ∧ i ≤ ks.length ∧ KpS H4 SB r ks (List.replicate n 0) (nums n) N0 i H' p q rr tk gp kk ag ∧ M = [] ∧ T = (lget Y 0 :: yv :: .ptr RB 0 :: lget Y 1 :: .v (.bool false) :: .ptr XB 0 :: .ptr SB 0 :: lget Y 2 :: rr :: iv (ag : Nat) :: lget Y 3 :: lget Y 4 :: lget Y 5 :: lget Y 6 :: lget Y 7 :: lget Y 8 :: lget Y 9 :: lget Y 10 :: lget Y 11 :: lget Y 12 :: lget Y 13 :: lget Y 14 :: lget Y 15 :: lget Y 16 :: lget Y 17 :: lget Y 18 :: lget Y 19 :: lget Y 20 :: lget Y 21 :: lget Y 22 :: lget Y 23 :: lget Y 24 :: lget Y 25 :: lget Y 26 :: lget Y 27 :: lget Y 28 :: lget Y 29 :: lget Y 30 :: lget Y 31 :: lget Y 32 :: lget Y 33 :: lget Y 34 :: lget Y 35 :: lget Y 36 :: lget Y 37 :: lget Y 38 :: lget Y 39 :: lget Y 40 :: lget Y 41 :: lget Y 42 :: lget Y 43 :: lget Y 44 :: lget Y 45 :: lget Y 46 :: lget Y 47 :: yv :: iv (ks.length : Nat) :: iv (i : Nat) :: lget Y 48 :: lget Y 49 :: lget Y 50 :: lget Y 51 :: lget Y 52 :: lget Y 53 :: lget Y 54 :: lget Y 55 :: lget Y 56 :: lget Y 57 :: lget Y 58 :: lget Y 59 :: lget Y 60 :: lget Y 61 :: lget Y 62 :: lget Y 63 :: lget Y 64 :: lget Y 65 :: lget Y 66 :: lget Y 67 :: lget Y 68 :: lget Y 69 :: lget Y 70 :: lget Y 71 :: lget Y 72 :: lget Y 73 :: lget Y 74 :: lget Y 75 :: lget Y 76 :: lget Y 77 :: lget Y 78 :: lget Y 79 :: lget Y 80 :: lget Y 81 :: lget Y 82 :: lget Y 83 :: lget Y 84 :: lget Y 85 :: lget Y 86 :: lget Y 87 :: lget Y 88 :: lget Y 89 :: lget Y 90 :: lget Y 91 :: lget Y 92 :: lget Y 93 :: lget Y 94 :: lget Y 95 :: lget Y 96 :: lget Y 97 :: lget Y 98 :: lget Y 99 :: lget Y 100 :: lget Y 101 :: lget Y 102 :: lget Y 103 :: lget Y 104 :: lget Y 105 :: lget Y 106 :: lget Y 107 :: lget Y 108 :: lget Y 109 :: lget Y 110 :: lget Y 111 :: lget Y 112 :: lget Y 113 :: lget Y 114 :: lget Y 115 :: lget Y 116 :: lget Y 117 :: lget Y 118 :: lget Y 119 :: lget Y 120 :: lget Y 121 :: lget Y 122 :: lget Y 123 :: lget Y 124 :: lget Y 125 :: lget Y 126 :: lget Y 127 :: lget Y 128 :: lget Y 129 :: lget Y 130 :: lget Y 131 :: lget Y 132 :: lget Y 133 :: lget Y 134 :: lget Y 135 :: lget Y 136 :: lget Y 137 :: lget Y 138 :: lget Y 139 :: lget Y 140 :: lget Y 141 :: lget Y 142 :: lget Y 143 :: lget Y 144 :: lget Y 145 :: lget Y 146 :: lget Y 147 :: lget Y 148 :: lget Y 149 :: lget Y 150 :: lget Y 151 :: lget Y 152 :: lget Y 153 :: lget Y 154 :: lget Y 155 :: lget Y 156 :: lget Y 157 :: lget Y 158 :: lget Y 159 :: lget Y 160 :: lget Y 161 :: lget Y 162 :: lget Y 163 :: lget Y 164 :: lget Y 165 :: lget Y 166 :: lget Y 167 :: lget Y 168 :: lget Y 169 :: lget Y 170 :: lget Y 171 :: lget Y 172 :: lget Y 173 :: lget Y 174 :: lget Y 175 :: lget Y 176 :: lget Y 177 :: lget Y 178 :: lget Y 179 :: lget Y 180 :: lget Y 181 :: lget Y 182 :: lget Y 183 :: lget Y 184 :: lget Y 185 :: lget Y 186 :: lget Y 187 :: lget Y 188 :: lget Y 189 :: lget Y 190 :: lget Y 191 :: lget Y 192 :: lget Y 193 :: lget Y 194 :: lget Y 195 :: lget Y 196 :: lget Y 197 :: lget Y 198 :: lget Y 199 :: lget Y 200 :: lget Y 201 :: lget Y 202 :: lget Y 203 :: lget Y 204 :: lget Y 205 :: lget Y 206 :: lget Y 207 :: lget Y 208 :: lget Y 209 :: lget Y 210 :: lget Y 211 :: lget Y 212 :: lget Y 213 :: lget Y 214 :: lget Y 215 :: lget Y 216 :: lget Y 217 :: lget Y 218 :: lget Y 219 :: lget Y 220 :: lget Y 221 :: lget Y 222 :: lget Y 223 :: lget Y 224 :: lget Y 225 :: lget Y 226 :: lget Y 227 :: lget Y 228 :: lget Y 229 :: lget Y 230 :: [])) ks.length
   ⟨0, 0, P0, Q0, .v (.slice none 0 0), List.replicate n 0, nums n, [], [_,_,_,_,_,_,_,_,_,_,_,_,_,_,_,_,_,_,_,_,_,_,_,_,_,_,_,_,_,_,_,_,_,_,_,_,_,_,_,_,_,_,_,_,_,_,_,_,_,_,_,_,_,_,_,_,_,_,_,_,_,_,_,_,_,_,_,_,_,_,_,_,_,_,_,_,_,_,_,_,_,_,_,_,_,_,_,_,_,_,_,_,_,_,_,_,_,_,_,_,_,_,_,_,_,_,_,_,_,_,_,_,_,_,_,_,_,_,_,_,_,_,_,_,_,_,_,_,_,_,_,_,_,_,_,_,_,_,_,_,_,_,_,_,_,_,_,_,_,_,_,_,_,_,_,_,_,_,_,_,_,_,_,_,_,_,_,_,_,_,_,_,_,_,_,_,_,_,_,_,_,_,_,_,_,_,_,_,_,_,_,_,_,_,_,_,_,_,_,_,_,_,_,_,_,_,_,_,_,_,_,_,_,_,_,_,_,_,_,_,_,_,_,_,_,_,_,_,_,_,_], rfl, Nat.zero_le _, hI0, rfl, rfl⟩ ?_
 clear hI0
 rintro m T M H6 ⟨i, ag, p, q, rr, tk, gp, kk, Y, hm, hi, hI, rfl, rfl⟩
 have k46 := hI.kp
 have hn6 : H6.next ≤ 1210000 := by have := hI.nx; have : i ≤ 40 := by omega
                                    omega
 have x6 := k46.nx
 have hy6 := hy4.keep k46
 have b16 := b14.keep hRl k46
 have b26 := b24.keep hXl k46
 have bs6 := hI.gs
 have hsl := hI.n1
 have hp6 := hI.hp
 have hq6 := hI.hq
 have hst6 := hI.sta
 obtain ⟨hne1, hne2, hl8, hg8, hgl, hls⟩ := tk_ne hst6
 have sb6 : beqs [p, q] [p, q] = true := by simp [beqs, hp6.sl.beq, hq6.sl.beq]
 have L1 := lkP (n := 0) b16 (by omega) (ru_beq r)
 have L2 := lkP (n := 0) b26 (by omega) (ru_beq r)
 have L3 := lkP (n := 0) bs6 hsl sb6
 repeat (first | apply qR | apply qS)
 refine wops_cons (wop_cmp rfl rfl rfl rfl rfl (fun h => ?_) (fun h => ?_))
 rotate_left
 · have h : ¬ ((i : Int) < (ks.length : Nat)) := of_decide_eq_false h
   have e : i = ks.length := by omega
   subst e
   as_aux_lemma =>
   have he1 := hI.e1
   have he2 := hI.e2
   rw [List.drop_length] at he1 he2
   have he1 : (rpS r (List.replicate n 0) (nums n) 0 ks).1 = (tk, gp) := he1
   have he2 : (rpS r (List.replicate n 0) (nums n) 0 ks).2.length = ag := he2
   have he3 := hI.e3
   have hE1 : rpE r ks = 0 := by unfold rpE; rw [hru, htk0]; rfl
   have hkl := hI.kl
   have hE2 : rpE r kk = 0 := by
     have h1 : tksE r kk = 0 := by
       unfold tksE
       rw [decide_eq_true (show (kk.length : Int) ≤ 256 by omega), ecE_0.2 hI.kt]; rfl
     unfold rpE; rw [hru, h1]; rfl
   have hag := hI.al
   have hrr1 : rr.one = true := by
     rcases hI.hG with ⟨rfl, _⟩ | ⟨_, _, _, rfl, _⟩ <;> rfl
   have hks6 := hI.hG.ks
   clear hI
   repeat (first | apply qN | refine qM rfl rfl ?_ | refine zqb rfl rfl rfl ‹_› ?_ | refine qF rfl ?_ | apply qR | apply qS | apply qE)
   refine wops_cons (wop_callF rfl rfl rfl (fn := Tryz.f26) (by rfl) ?_)
   refine c26 hq H6 r _ yv ks rfl hy6 hy1 (by omega) (by omega) _ (fun h => absurd hE1 h) fun _ H7 p1 q1 rr1 n1 hn1 k7 n7 hp1 hq1 hp1o hq1o hG1 => ⟨k7.nx, ?_⟩
   obtain rfl : n1 = n := by omega
   have hp1 : Ky H7 p1 tk := by rw [he1] at hp1; exact hp1
   have hq1 : Ky H7 q1 gp := by rw [he1] at hq1; exact hq1
   have hl1 : (rfs (rpS r (List.replicate n1 0) (nums n1) 0 ks).2).length = ag := by rw [rfs_length, he2]
   have hsl1 := hG1.sl (rfs_len _)
   have ho1 := hG1.old
   generalize rfs (rpS r (List.replicate n1 0) (nums n1) 0 ks).2 = F1 at hl1 hsl1 hG1
   have x7 := k7.nx
   have r7 : H7.next < 2 ^ 59 := by omega
   repeat (first | refine qM rfl rfl ?_ | refine zq9 rfl rfl rfl rfl ?_)
   refine wops_cons (o_allocA (zs := [.v (.slice none 0 0), .v (.slice none 0 0)]) rfl rfl (z := .agg #[.slice none 0 0, .slice none 0 0]) (by kernel_rfl) rfl r7 ?_)
   refine wops_cons (o_storeA (n := 2) (vs := [p1, q1]) rfl rfl (by kernel_rfl) rfl rfl rfl (by simp [hp1o, hq1o]) (get_add_eq r7) (Nat.le_refl _) ?_)
   refine WOps.mem (fun H8 => Keeps H7 H8 ∧ H8.next = H7.next + 1 ∧ Bk H8 H7.next 26 [p1, q1]) ⟨((Keeps.refl H7).add _ r7).set _ (Nat.le_refl _) r7, rfl, ⟨r7, get_set_eq r7⟩⟩ ?_
   rintro H8 ⟨k8, n8, b8⟩
   have k68 := k7.trans k8
   have x8 := k8.nx
   have b18 := b16.keep (by omega) k68
   generalize hA1 : H7.next = A1 at b8 n8 ⊢
   have hA1l : A1 < H8.next := by omega
   have n8' : H8.next ≤ H6.next + 20000 := by omega
   have hks8 := hks6.keep k68
   have hp8 := hp1.keep k8
   have hq8 := hq1.keep k8
   have hsl8 := hsl1.keep ho1 k8
   have ho8 := ho1.keep k8
   clear k7 k8 n7 n8 hA1 r7 hp1 hq1 hsl1 ho1 hG1
   show WOps _ _ _ _ _ _
   repeat (first | apply qN | refine qM rfl rfl ?_ | refine zqb rfl rfl rfl ‹_› ?_ | apply qR | apply qS)
   refine WOps.cut (fun T => ∃ Y : List AV, T = (lget Y 0 :: yv :: .ptr RB 0 :: lget Y 1 :: .v (.bool false) :: .ptr XB 0 :: .ptr SB 0 :: lget Y 2 :: lget Y 3 :: iv (ag : Nat) :: lget Y 4 :: lget Y 5 :: lget Y 6 :: lget Y 7 :: lget Y 8 :: lget Y 9 :: lget Y 10 :: .ptr A1 0 :: rr1 :: iv 0 :: lget Y 11 :: lget Y 12 :: lget Y 13 :: lget Y 14 :: lget Y 15 :: lget Y 16 :: lget Y 17 :: lget Y 18 :: lget Y 19 :: lget Y 20 :: lget Y 21 :: lget Y 22 :: lget Y 23 :: lget Y 24 :: lget Y 25 :: lget Y 26 :: lget Y 27 :: lget Y 28 :: lget Y 29 :: lget Y 30 :: lget Y 31 :: lget Y 32 :: lget Y 33 :: lget Y 34 :: lget Y 35 :: lget Y 36 :: lget Y 37 :: lget Y 38 :: lget Y 39 :: lget Y 40 :: lget Y 41 :: lget Y 42 :: lget Y 43 :: lget Y 44 :: lget Y 45 :: lget Y 46 :: lget Y 47 :: lget Y 48 :: lget Y 49 :: lget Y 50 :: lget Y 51 :: lget Y 52 :: lget Y 53 :: lget Y 54 :: lget Y 55 :: lget Y 56 :: lget Y 57 :: lget Y 58 :: lget Y 59 :: lget Y 60 :: lget Y 61 :: lget Y 62 :: lget Y 63 :: lget Y 64 :: lget Y 65 :: lget Y 66 :: lget Y 67 :: lget Y 68 :: lget Y 69 :: lget Y 70 :: lget Y 71 :: lget Y 72 :: lget Y 73 :: lget Y 74 :: lget Y 75 :: lget Y 76 :: lget Y 77 :: lget Y 78 :: lget Y 79 :: lget Y 80 :: lget Y 81 :: lget Y 82 :: lget Y 83 :: lget Y 84 :: lget Y 85 :: lget Y 86 :: lget Y 87 :: lget Y 88 :: lget Y 89 :: lget Y 90 :: lget Y 91 :: lget Y 92 :: lget Y 93 :: lget Y 94 :: lget Y 95 :: lget Y 96 :: lget Y 97 :: lget Y 98 :: lget Y 99 :: lget Y 100 :: lget Y 101 :: lget Y 102 :: lget Y 103 :: lget Y 104 :: lget Y 105 :: lget Y 106 :: lget Y 107 :: lget Y 108 :: lget Y 109 :: lget Y 110 :: lget Y 111 :: lget Y 112 :: lget Y 113 :: lget Y 114 :: lget Y 115 :: lget Y 116 :: lget Y 117 :: lget Y 118 :: lget Y 119 :: lget Y 120 :: lget Y 121 :: lget Y 122 :: lget Y 123 :: lget Y 124 :: lget Y 125 :: lget Y 126 :: lget Y 127 :: lget Y 128 :: lget Y 129 :: lget Y 130 :: lget Y 131 :: lget Y 132 :: lget Y 133 :: lget Y 134 :: lget Y 135 :: lget Y 136 :: lget Y 137 :: lget Y 138 :: lget Y 139 :: lget Y 140 :: lget Y 141 :: lget Y 142 :: lget Y 143 :: lget Y 144 :: lget Y 145 :: lget Y 146 :: lget Y 147 :: lget Y 148 :: lget Y 149 :: lget Y 150 :: lget Y 151 :: lget Y 152 :: lget Y 153 :: lget Y 154 :: lget Y 155 :: lget Y 156 :: .agg r.cs :: rr :: lget Y 157 :: lget Y 158 :: lget Y 159 :: lget Y 160 :: lget Y 161 :: lget Y 162 :: lget Y 163 :: lget Y 164 :: lget Y 165 :: lget Y 166 :: lget Y 167 :: lget Y 168 :: lget Y 169 :: lget Y 170 :: lget Y 171 :: lget Y 172 :: lget Y 173 :: lget Y 174 :: lget Y 175 :: lget Y 176 :: lget Y 177 :: lget Y 178 :: lget Y 179 :: lget Y 180 :: lget Y 181 :: lget Y 182 :: lget Y 183 :: lget Y 184 :: lget Y 185 :: lget Y 186 :: lget Y 187 :: lget Y 188 :: lget Y 189 :: lget Y 190 :: lget Y 191 :: lget Y 192 :: lget Y 193 :: lget Y 194 :: lget Y 195 :: lget Y 196 :: lget Y 197 :: lget Y 198 :: lget Y 199 :: lget Y 200 :: lget Y 201 :: lget Y 202 :: lget Y 203 :: lget Y 204 :: lget Y 205 :: lget Y 206 :: lget Y 207 :: lget Y 208 :: lget Y 209 :: lget Y 210 :: lget Y 211 :: lget Y 212 :: lget Y 213 :: lget Y 214 :: lget Y 215 :: lget Y 216 :: lget Y 217 :: lget Y 218 :: lget Y 219 :: lget Y 220 :: lget Y 221 :: lget Y 222 :: lget Y 223 :: lget Y 224 :: lget Y 225 :: lget Y 226 :: lget Y 227 :: lget Y 228 :: lget Y 229 :: [])) ⟨[_,_,_,_,_,_,_,_,_,_,_,_,_,_,_,_,_,_,_,_,_,_,_,_,_,_,_,_,_,_,_,_,_,_,_,_,_,_,_,_,_,_,_,_,_,_,_,_,_,_,_,_,_,_,_,_,_,_,_,_,_,_,_,_,_,_,_,_,_,_,_,_,_,_,_,_,_,_,_,_,_,_,_,_,_,_,_,_,_,_,_,_,_,_,_,_,_,_,_,_,_,_,_,_,_,_,_,_,_,_,_,_,_,_,_,_,_,_,_,_,_,_,_,_,_,_,_,_,_,_,_,_,_,_,_,_,_,_,_,_,_,_,_,_,_,_,_,_,_,_,_,_,_,_,_,_,_,_,_,_,_,_,_,_,_,_,_,_,_,_,_,_,_,_,_,_,_,_,_,_,_,_,_,_,_,_,_,_,_,_,_,_,_,_,_,_,_,_,_,_,_,_,_,_,_,_,_,_,_,_,_,_,_,_,_,_,_,_,_,_,_,_,_,_,_,_,_,_,_,_], rfl⟩ ?_
   rintro T ⟨Y, rfl⟩
   refine wops_cons (wop_callF rfl rfl rfl (fn := Tryz.f26) (by rfl) ?_)
   refine c26 hq H8 r _ rr kk rfl hks8 hrr1 (by omega) (by omega) _ (fun h => absurd hE2 h) fun _ H9 p2 q2 rr2 n2 hn2 k9 n9 hp2 hq2 hp2o hq2o hG2 => ⟨k9.nx, ?_⟩
   obtain rfl : n2 = n1 := by omega
   rw [he3] at hp2 hq2 hG2
   have hp2 : Ky H9 p2 tk := hp2
   have hq2 : Ky H9 q2 gp := hq2
   have hsl2 : SlR 2 H9 rr2 [] := hG2.sl (rfs_len _)
   have ho2 := hG2.old
   have x9 := k9.nx
   have r9 : H9.next < 2 ^ 59 := by omega
   repeat (first | refine qM rfl rfl ?_ | refine zq9 rfl rfl rfl rfl ?_)
   refine wops_cons (o_allocA (zs := [.v (.slice none 0 0), .v (.slice none 0 0)]) rfl rfl (z := .agg #[.slice none 0 0, .slice none 0 0]) (by kernel_rfl) rfl r9 ?_)
   refine wops_cons (o_storeA (n := 2) (vs := [p2, q2]) rfl rfl (by kernel_rfl) rfl rfl rfl (by simp [hp2o, hq2o]) (get_add_eq r9) (Nat.le_refl _) ?_)
   refine WOps.mem (fun H10 => Keeps H9 H10 ∧ H10.next = H9.next + 1 ∧ Bk H10 H9.next 26 [p2, q2]) ⟨((Keeps.refl H9).add _ r9).set _ (Nat.le_refl _) r9, rfl, ⟨r9, get_set_eq r9⟩⟩ ?_
   rintro H10 ⟨k10, n10, b10⟩
   have k810 := k9.trans k10
   have k610 := k68.trans k810
   have x10 := k10.nx
   have b110 := b18.keep (by omega) k810
   have b810 := b8.keep hA1l k810
   have bs10 := bs6.keep hsl k610
   have b210 := b26.keep (by omega) k610
   generalize hA2 : H9.next = A2 at b10 n10 ⊢
   have hA2l : A2 < H10.next := by omega
   have hA1l : A1 < H10.next := by omega
   have n10' : H10.next ≤ H6.next + 40000 := by omega
   have hpA := hp8.keep k810
   have hqA := hq8.keep k810
   have hpB := hp2.keep k10
   have hqB := hq2.keep k10
   have hpS := hp6.keep k610
   have hqS := hq6.keep k610
   have hF1 := hsl8.keep ho8 k810
   have hF1o := ho8.keep k810
   have hF2 := hsl2.keep ho2 k10
   have hF2o := ho2.keep k10
   clear k9 k10 n9 n10 hA2 r9 hp2 hq2 hsl2 ho2 hG2 b18 b8 hp8 hq8 hsl8 ho8 k810 k68
   show WOps _ _ _ _ _ _
   repeat (first | apply qN | refine qM rfl rfl ?_ | refine zqb rfl rfl rfl ‹_› ?_ | apply qR | apply qS)
   refine WOps.cut (fun T => ∃ Y : List AV, T = (lget Y 0 :: yv :: .ptr RB 0 :: lget Y 1 :: .v (.bool false) :: .ptr XB 0 :: .ptr SB 0 :: lget Y 2 :: lget Y 3 :: iv (ag : Nat) :: lget Y 4 :: lget Y 5 :: lget Y 6 :: lget Y 7 :: lget Y 8 :: lget Y 9 :: lget Y 10 :: .ptr A1 0 :: rr1 :: iv 0 :: .ptr A2 0 :: rr2 :: iv 0 :: lget Y 11 :: lget Y 12 :: lget Y 13 :: lget Y 14 :: lget Y 15 :: lget Y 16 :: lget Y 17 :: lget Y 18 :: lget Y 19 :: lget Y 20 :: lget Y 21 :: lget Y 22 :: lget Y 23 :: lget Y 24 :: lget Y 25 :: lget Y 26 :: lget Y 27 :: lget Y 28 :: lget Y 29 :: lget Y 30 :: lget Y 31 :: lget Y 32 :: lget Y 33 :: lget Y 34 :: lget Y 35 :: lget Y 36 :: lget Y 37 :: lget Y 38 :: lget Y 39 :: lget Y 40 :: lget Y 41 :: lget Y 42 :: lget Y 43 :: lget Y 44 :: lget Y 45 :: lget Y 46 :: lget Y 47 :: lget Y 48 :: lget Y 49 :: lget Y 50 :: lget Y 51 :: lget Y 52 :: lget Y 53 :: lget Y 54 :: lget Y 55 :: lget Y 56 :: lget Y 57 :: lget Y 58 :: lget Y 59 :: lget Y 60 :: lget Y 61 :: lget Y 62 :: lget Y 63 :: lget Y 64 :: lget Y 65 :: lget Y 66 :: lget Y 67 :: lget Y 68 :: lget Y 69 :: lget Y 70 :: lget Y 71 :: lget Y 72 :: lget Y 73 :: lget Y 74 :: lget Y 75 :: lget Y 76 :: lget Y 77 :: lget Y 78 :: lget Y 79 :: lget Y 80 :: lget Y 81 :: lget Y 82 :: lget Y 83 :: lget Y 84 :: lget Y 85 :: lget Y 86 :: lget Y 87 :: lget Y 88 :: lget Y 89 :: lget Y 90 :: lget Y 91 :: lget Y 92 :: lget Y 93 :: lget Y 94 :: lget Y 95 :: lget Y 96 :: lget Y 97 :: lget Y 98 :: lget Y 99 :: lget Y 100 :: lget Y 101 :: lget Y 102 :: lget Y 103 :: lget Y 104 :: lget Y 105 :: lget Y 106 :: lget Y 107 :: lget Y 108 :: lget Y 109 :: lget Y 110 :: lget Y 111 :: lget Y 112 :: lget Y 113 :: lget Y 114 :: lget Y 115 :: lget Y 116 :: lget Y 117 :: lget Y 118 :: lget Y 119 :: lget Y 120 :: lget Y 121 :: lget Y 122 :: lget Y 123 :: lget Y 124 :: lget Y 125 :: lget Y 126 :: lget Y 127 :: lget Y 128 :: lget Y 129 :: lget Y 130 :: lget Y 131 :: lget Y 132 :: lget Y 133 :: lget Y 134 :: lget Y 135 :: lget Y 136 :: lget Y 137 :: lget Y 138 :: lget Y 139 :: lget Y 140 :: lget Y 141 :: lget Y 142 :: lget Y 143 :: lget Y 144 :: lget Y 145 :: lget Y 146 :: lget Y 147 :: lget Y 148 :: lget Y 149 :: lget Y 150 :: lget Y 151 :: lget Y 152 :: lget Y 153 :: lget Y 154 :: lget Y 155 :: lget Y 156 :: lget Y 157 :: lget Y 158 :: lget Y 159 :: lget Y 160 :: .agg r.cs :: .agg [p, q] :: lget Y 161 :: lget Y 162 :: lget Y 163 :: lget Y 164 :: lget Y 165 :: lget Y 166 :: lget Y 167 :: lget Y 168 :: lget Y 169 :: lget Y 170 :: lget Y 171 :: lget Y 172 :: lget Y 173 :: lget Y 174 :: lget Y 175 :: lget Y 176 :: lget Y 177 :: lget Y 178 :: lget Y 179 :: lget Y 180 :: lget Y 181 :: lget Y 182 :: lget Y 183 :: lget Y 184 :: lget Y 185 :: lget Y 186 :: lget Y 187 :: lget Y 188 :: lget Y 189 :: lget Y 190 :: lget Y 191 :: lget Y 192 :: lget Y 193 :: lget Y 194 :: lget Y 195 :: lget Y 196 :: lget Y 197 :: lget Y 198 :: lget Y 199 :: lget Y 200 :: lget Y 201 :: lget Y 202 :: lget Y 203 :: lget Y 204 :: lget Y 205 :: lget Y 206 :: lget Y 207 :: lget Y 208 :: lget Y 209 :: lget Y 210 :: lget Y 211 :: lget Y 212 :: lget Y 213 :: lget Y 214 :: lget Y 215 :: lget Y 216 :: lget Y 217 :: lget Y 218 :: lget Y 219 :: lget Y 220 :: lget Y 221 :: lget Y 222 :: lget Y 223 :: lget Y 224 :: lget Y 225 :: lget Y 226 :: [])) ⟨[_,_,_,_,_,_,_,_,_,_,_,_,_,_,_,_,_,_,_,_,_,_,_,_,_,_,_,_,_,_,_,_,_,_,_,_,_,_,_,_,_,_,_,_,_,_,_,_,_,_,_,_,_,_,_,_,_,_,_,_,_,_,_,_,_,_,_,_,_,_,_,_,_,_,_,_,_,_,_,_,_,_,_,_,_,_,_,_,_,_,_,_,_,_,_,_,_,_,_,_,_,_,_,_,_,_,_,_,_,_,_,_,_,_,_,_,_,_,_,_,_,_,_,_,_,_,_,_,_,_,_,_,_,_,_,_,_,_,_,_,_,_,_,_,_,_,_,_,_,_,_,_,_,_,_,_,_,_,_,_,_,_,_,_,_,_,_,_,_,_,_,_,_,_,_,_,_,_,_,_,_,_,_,_,_,_,_,_,_,_,_,_,_,_,_,_,_,_,_,_,_,_,_,_,_,_,_,_,_,_,_,_,_,_,_,_,_,_,_,_,_,_,_,_,_,_,_], rfl⟩ ?_
   rintro T ⟨Y, rfl⟩
   refine wops_cons (wop_callF rfl rfl rfl (fn := Tryz.f37) (by rfl) ?_)
   refine c37 hq H10 r _ p q tk gp rfl hpS hqS hst6 (by omega) _ fun H11 k11 n11 => ⟨k11.nx, ?_⟩
   have x11 := k11.nx
   have b1f := b110.keep (by omega) k11
   have b2f := b210.keep (by omega) k11
   have bAf := b810.keep hA1l k11
   have bBf := b10.keep hA2l k11
   have bSf := bs10.keep (by omega) k11
   have hpA := hpA.keep k11
   have hqA := hqA.keep k11
   have hpB := hpB.keep k11
   have hqB := hqB.keep k11
   have hpS := hpS.keep k11
   have hqS := hqS.keep k11
   have hF1 := hF1.keep hF1o k11
   have hF2 := hF2.keep hF2o k11
   have hF1o := hF1o.keep k11
   have hF2o := hF2o.keep k11
   have sA : beqs [p1, q1] [p1, q1] = true := by simp [beqs, hpA.sl.beq, hqA.sl.beq]
   have sB : beqs [p2, q2] [p2, q2] = true := by simp [beqs, hpB.sl.beq, hqB.sl.beq]
   clear b110 b210 b810 b10 bs10
   repeat (first | apply qN | refine qM rfl rfl ?_ | refine zq9 rfl rfl rfl rfl ?_ | apply qS)
   refine Wp.cut (fun T => ∃ Y : List AV, T = (lget Y 0 :: yv :: .ptr RB 0 :: lget Y 1 :: .v (.bool false) :: .ptr XB 0 :: .ptr SB 0 :: lget Y 2 :: lget Y 3 :: iv (ag : Nat) :: lget Y 4 :: lget Y 5 :: lget Y 6 :: lget Y 7 :: lget Y 8 :: lget Y 9 :: lget Y 10 :: .ptr A1 0 :: rr1 :: iv 0 :: .ptr A2 0 :: rr2 :: iv 0 :: iv (lkP2 (r.f + r.t) 0 tk).1 :: iv (lkP2 (r.f + r.t) 0 tk).2 :: lget Y 11 :: lget Y 12 :: lget Y 13 :: lget Y 14 :: lget Y 15 :: lget Y 16 :: lget Y 17 :: lget Y 18 :: lget Y 19 :: lget Y 20 :: lget Y 21 :: lget Y 22 :: lget Y 23 :: lget Y 24 :: lget Y 25 :: lget Y 26 :: lget Y 27 :: lget Y 28 :: lget Y 29 :: lget Y 30 :: lget Y 31 :: lget Y 32 :: lget Y 33 :: lget Y 34 :: lget Y 35 :: lget Y 36 :: lget Y 37 :: lget Y 38 :: lget Y 39 :: lget Y 40 :: lget Y 41 :: lget Y 42 :: lget Y 43 :: lget Y 44 :: lget Y 45 :: lget Y 46 :: lget Y 47 :: lget Y 48 :: lget Y 49 :: lget Y 50 :: lget Y 51 :: lget Y 52 :: lget Y 53 :: lget Y 54 :: lget Y 55 :: lget Y 56 :: lget Y 57 :: lget Y 58 :: lget Y 59 :: lget Y 60 :: lget Y 61 :: lget Y 62 :: lget Y 63 :: lget Y 64 :: lget Y 65 :: lget Y 66 :: lget Y 67 :: lget Y 68 :: lget Y 69 :: lget Y 70 :: lget Y 71 :: lget Y 72 :: lget Y 73 :: lget Y 74 :: lget Y 75 :: lget Y 76 :: lget Y 77 :: lget Y 78 :: lget Y 79 :: lget Y 80 :: lget Y 81 :: lget Y 82 :: lget Y 83 :: lget Y 84 :: lget Y 85 :: lget Y 86 :: lget Y 87 :: lget Y 88 :: lget Y 89 :: lget Y 90 :: lget Y 91 :: lget Y 92 :: lget Y 93 :: lget Y 94 :: lget Y 95 :: lget Y 96 :: lget Y 97 :: lget Y 98 :: lget Y 99 :: lget Y 100 :: lget Y 101 :: lget Y 102 :: lget Y 103 :: lget Y 104 :: lget Y 105 :: lget Y 106 :: lget Y 107 :: lget Y 108 :: lget Y 109 :: lget Y 110 :: lget Y 111 :: lget Y 112 :: lget Y 113 :: lget Y 114 :: lget Y 115 :: lget Y 116 :: lget Y 117 :: lget Y 118 :: lget Y 119 :: lget Y 120 :: lget Y 121 :: lget Y 122 :: lget Y 123 :: lget Y 124 :: lget Y 125 :: lget Y 126 :: lget Y 127 :: lget Y 128 :: lget Y 129 :: lget Y 130 :: lget Y 131 :: lget Y 132 :: lget Y 133 :: lget Y 134 :: lget Y 135 :: lget Y 136 :: lget Y 137 :: lget Y 138 :: lget Y 139 :: lget Y 140 :: lget Y 141 :: lget Y 142 :: lget Y 143 :: lget Y 144 :: lget Y 145 :: lget Y 146 :: lget Y 147 :: lget Y 148 :: lget Y 149 :: lget Y 150 :: lget Y 151 :: lget Y 152 :: lget Y 153 :: lget Y 154 :: lget Y 155 :: lget Y 156 :: lget Y 157 :: lget Y 158 :: lget Y 159 :: lget Y 160 :: lget Y 161 :: lget Y 162 :: lget Y 163 :: lget Y 164 :: lget Y 165 :: lget Y 166 :: lget Y 167 :: lget Y 168 :: lget Y 169 :: lget Y 170 :: lget Y 171 :: lget Y 172 :: lget Y 173 :: lget Y 174 :: lget Y 175 :: lget Y 176 :: lget Y 177 :: lget Y 178 :: lget Y 179 :: lget Y 180 :: lget Y 181 :: lget Y 182 :: lget Y 183 :: lget Y 184 :: lget Y 185 :: lget Y 186 :: lget Y 187 :: lget Y 188 :: lget Y 189 :: lget Y 190 :: lget Y 191 :: lget Y 192 :: lget Y 193 :: lget Y 194 :: lget Y 195 :: lget Y 196 :: lget Y 197 :: lget Y 198 :: lget Y 199 :: lget Y 200 :: lget Y 201 :: lget Y 202 :: lget Y 203 :: lget Y 204 :: lget Y 205 :: lget Y 206 :: lget Y 207 :: lget Y 208 :: lget Y 209 :: lget Y 210 :: lget Y 211 :: lget Y 212 :: lget Y 213 :: lget Y 214 :: lget Y 215 :: lget Y 216 :: lget Y 217 :: lget Y 218 :: lget Y 219 :: lget Y 220 :: lget Y 221 :: lget Y 222 :: lget Y 223 :: lget Y 224 :: lget Y 225 :: lget Y 226 :: [])) ⟨[_,_,_,_,_,_,_,_,_,_,_,_,_,_,_,_,_,_,_,_,_,_,_,_,_,_,_,_,_,_,_,_,_,_,_,_,_,_,_,_,_,_,_,_,_,_,_,_,_,_,_,_,_,_,_,_,_,_,_,_,_,_,_,_,_,_,_,_,_,_,_,_,_,_,_,_,_,_,_,_,_,_,_,_,_,_,_,_,_,_,_,_,_,_,_,_,_,_,_,_,_,_,_,_,_,_,_,_,_,_,_,_,_,_,_,_,_,_,_,_,_,_,_,_,_,_,_,_,_,_,_,_,_,_,_,_,_,_,_,_,_,_,_,_,_,_,_,_,_,_,_,_,_,_,_,_,_,_,_,_,_,_,_,_,_,_,_,_,_,_,_,_,_,_,_,_,_,_,_,_,_,_,_,_,_,_,_,_,_,_,_,_,_,_,_,_,_,_,_,_,_,_,_,_,_,_,_,_,_,_,_,_,_,_,_,_,_,_,_,_,_,_,_,_,_,_,_], rfl⟩ ?_
   rintro T ⟨Y, rfl⟩
   refine wp_drawK rfl ?_
   refine k_move rfl rfl rfl ?_
   refine k_move rfl rfl rfl ?_
   refine k_bin (op := .add) (v := .int .i64 0) rfl rfl rfl rfl rfl rfl ?_
   refine k_bin (op := .neq) (v := .bool false) rfl rfl rfl rfl rfl rfl ?_
   refine k_move rfl rfl rfl ?_
   refine k_move rfl rfl rfl ?_
   refine k_lenR rfl rfl rfl rfl rfl rfl hF1 ?_
   rw [hl1]
   refine k_move rfl rfl rfl ?_
   refine k_bin (op := .neq) (v := .bool false) rfl rfl rfl rfl rfl (by simp [binI]) ?_
   refine k_pick rfl rfl rfl rfl ?_
   refine k_move rfl rfl rfl ?_
   refine k_move rfl rfl rfl ?_
   refine k_loud rfl rfl (o_lenR rfl rfl rfl rfl rfl hF2 ⟨Keeps.refl _, ?_⟩)
   refine k_bin (op := .neq) (v := .bool false) rfl rfl rfl rfl rfl rfl ?_
   refine k_pick rfl rfl rfl rfl ?_
   refine k_move rfl rfl rfl ?_
   refine k_load4 rfl rfl rfl rfl bAf (lkP (n := 0) bAf (by omega) sA) ?_
   refine k_load4 rfl rfl rfl rfl bSf (lkP (n := 0) bSf (by omega) sb6) ?_
   refine k_call rfl rfl rfl (fun b h => by cases h) (wop_callF rfl rfl rfl (fn := Tryz.f9) (by rfl) ?_)
   refine c9 hq H11 _ p1 q1 rfl hp1o hq1o (by omega) _ fun Ha ka na => ⟨ka.nx, ka, ?_⟩
   refine k_call rfl rfl rfl (fun b h => by cases h) (wop_callF rfl rfl rfl (fn := Tryz.f9) (by rfl) ?_)
   refine c9 hq Ha _ p q rfl hp6.sl.one hq6.sl.one (by omega) _ fun Hb kb nb => ⟨kb.nx, ka.trans kb, ?_⟩
   have kab := ka.trans kb
   refine k_call rfl rfl rfl (fun b h => by cases h) (wop_callF rfl rfl rfl (fn := Tryz.f15) (by rfl) ?_)
   refine c15 hq Hb p1 q1 p q tk gp tk gp (hpA.keep kab) (hqA.keep kab) (hpS.keep kab) (hqS.keep kab) (by omega) (by omega) (by omega) (by omega) (by omega) _ fun Hc kc nc => ⟨kc.nx, kab.trans kc, ?_⟩
   have kac := kab.trans kc
   rw [decide_eq_true rfl, decide_eq_true rfl]
   refine k_not rfl rfl rfl rfl ?_
   refine k_pick rfl rfl rfl rfl ?_
   refine k_move rfl rfl rfl ?_
   refine k_load4 rfl rfl rfl rfl bBf (lkP (n := 0) bBf (by omega) sB) ?_
   refine k_load4 rfl rfl rfl rfl bSf (lkP (n := 0) bSf (by omega) sb6) ?_
   refine k_call rfl rfl rfl (fun b h => by cases h) (wop_callF rfl rfl rfl (fn := Tryz.f9) (by rfl) ?_)
   refine c9 hq Hc _ p2 q2 rfl hp2o hq2o (by omega) _ fun Hd kd nd => ⟨kd.nx, kac.trans kd, ?_⟩
   refine k_call rfl rfl rfl (fun b h => by cases h) (wop_callF rfl rfl rfl (fn := Tryz.f9) (by rfl) ?_)
   refine c9 hq Hd _ p q rfl hp6.sl.one hq6.sl.one (by omega) _ fun He ke ne => ⟨ke.nx, (kac.trans kd).trans ke, ?_⟩
   have kae := (kac.trans kd).trans ke
   refine k_call rfl rfl rfl (fun b h => by cases h) (wop_callF rfl rfl rfl (fn := Tryz.f15) (by rfl) ?_)
   refine c15 hq He p2 q2 p q tk gp tk gp (hpB.keep kae) (hqB.keep kae) (hpS.keep kae) (hqS.keep kae) (by omega) (by omega) (by omega) (by omega) (by omega) _ fun Hf kf nf => ⟨kf.nx, kae.trans kf, ?_⟩
   have kaf := kae.trans kf
   rw [decide_eq_true rfl, decide_eq_true rfl]
   refine k_not rfl rfl rfl rfl ?_
   refine k_pick rfl rfl rfl rfl ?_
   refine k_move rfl rfl rfl ?_
   refine k_load4 rfl rfl rfl rfl b2f (lkP (n := 0) b2f (by omega) (ru_beq r)) ?_
   refine k_load4 rfl rfl rfl rfl bSf (lkP (n := 0) bSf (by omega) sb6) ?_
   refine k_call rfl rfl rfl (fun b h => by cases h) (wop_callF rfl rfl rfl (fn := Tryz.f9) (by rfl) ?_)
   refine c9 hq Hf _ p q rfl hp6.sl.one hq6.sl.one (by omega) _ fun Hg kg ng => ⟨kg.nx, kaf.trans kg, ?_⟩
   have kag := kaf.trans kg
   refine k_call rfl rfl rfl (fun b h => by cases h) (wop_callF rfl rfl rfl (fn := Tryz.f36) (by rfl) ?_)
   refine c36 hq Hg r _ rfl p q tk gp (hpS.keep kag) (hqS.keep kag) (by omega) (by omega) hru (by omega) _ fun Hh kh nh => ⟨kh.nx, kag.trans kh, ?_⟩
   have kah := kag.trans kh
   rw [hst6]
   refine k_bin (op := .neq) (v := .bool false) rfl rfl rfl rfl rfl rfl ?_
   refine k_pick rfl rfl rfl rfl ?_
   have b1h := b1f.keep (by omega) kah
   have bSh := bSf.keep (by omega) kah
   have hph := hpS.keep kah
   have p3 : At Hh (.ptr RB 3) (iv r.f) := b1h.at rfl
   have p4 : At Hh (.ptr RB 4) (iv r.t) := b1h.at rfl
   have s0 : At Hh (.ptr SB 0) p := bSh.at rfl
   clear kah kag kaf kae kac kab ka kb kc kd ke kf kg kh na nb nc nd ne nf ng nh b1f b2f bAf bBf bSf
   repeat (first | refine zqa rfl rfl rfl ?_ | refine zq6 rfl rfl ‹_› ?_ | refine k_nil ?_ | refine qF rfl ?_ | apply qR | apply qS | apply qK)
   refine WOps.cut (fun T => ∃ Y : List AV, T = (lget Y 0 :: lget Y 1 :: .ptr RB 0 :: lget Y 2 :: lget Y 3 :: lget Y 4 :: .ptr SB 0 :: lget Y 5 :: lget Y 6 :: lget Y 7 :: lget Y 8 :: lget Y 9 :: lget Y 10 :: lget Y 11 :: lget Y 12 :: lget Y 13 :: lget Y 14 :: lget Y 15 :: lget Y 16 :: lget Y 17 :: lget Y 18 :: lget Y 19 :: lget Y 20 :: iv (lkP2 (r.f + r.t) 0 tk).1 :: iv (lkP2 (r.f + r.t) 0 tk).2 :: lget Y 21 :: lget Y 22 :: lget Y 23 :: lget Y 24 :: lget Y 25 :: lget Y 26 :: lget Y 27 :: lget Y 28 :: lget Y 29 :: lget Y 30 :: lget Y 31 :: lget Y 32 :: lget Y 33 :: lget Y 34 :: lget Y 35 :: lget Y 36 :: lget Y 37 :: lget Y 38 :: lget Y 39 :: lget Y 40 :: lget Y 41 :: lget Y 42 :: lget Y 43 :: lget Y 44 :: lget Y 45 :: lget Y 46 :: lget Y 47 :: lget Y 48 :: lget Y 49 :: lget Y 50 :: lget Y 51 :: lget Y 52 :: lget Y 53 :: lget Y 54 :: lget Y 55 :: lget Y 56 :: lget Y 57 :: lget Y 58 :: lget Y 59 :: lget Y 60 :: lget Y 61 :: lget Y 62 :: lget Y 63 :: lget Y 64 :: lget Y 65 :: lget Y 66 :: lget Y 67 :: lget Y 68 :: lget Y 69 :: lget Y 70 :: lget Y 71 :: lget Y 72 :: lget Y 73 :: lget Y 74 :: lget Y 75 :: lget Y 76 :: lget Y 77 :: lget Y 78 :: lget Y 79 :: lget Y 80 :: lget Y 81 :: lget Y 82 :: lget Y 83 :: lget Y 84 :: lget Y 85 :: lget Y 86 :: lget Y 87 :: lget Y 88 :: lget Y 89 :: lget Y 90 :: lget Y 91 :: lget Y 92 :: lget Y 93 :: lget Y 94 :: lget Y 95 :: lget Y 96 :: lget Y 97 :: lget Y 98 :: lget Y 99 :: lget Y 100 :: lget Y 101 :: lget Y 102 :: lget Y 103 :: lget Y 104 :: lget Y 105 :: lget Y 106 :: lget Y 107 :: lget Y 108 :: lget Y 109 :: lget Y 110 :: lget Y 111 :: lget Y 112 :: lget Y 113 :: lget Y 114 :: lget Y 115 :: lget Y 116 :: lget Y 117 :: lget Y 118 :: lget Y 119 :: lget Y 120 :: lget Y 121 :: lget Y 122 :: lget Y 123 :: lget Y 124 :: lget Y 125 :: lget Y 126 :: lget Y 127 :: lget Y 128 :: lget Y 129 :: lget Y 130 :: lget Y 131 :: lget Y 132 :: lget Y 133 :: lget Y 134 :: lget Y 135 :: lget Y 136 :: lget Y 137 :: lget Y 138 :: lget Y 139 :: lget Y 140 :: lget Y 141 :: lget Y 142 :: lget Y 143 :: lget Y 144 :: lget Y 145 :: lget Y 146 :: lget Y 147 :: lget Y 148 :: lget Y 149 :: lget Y 150 :: lget Y 151 :: lget Y 152 :: lget Y 153 :: lget Y 154 :: lget Y 155 :: lget Y 156 :: lget Y 157 :: lget Y 158 :: lget Y 159 :: lget Y 160 :: lget Y 161 :: lget Y 162 :: lget Y 163 :: lget Y 164 :: lget Y 165 :: lget Y 166 :: lget Y 167 :: lget Y 168 :: lget Y 169 :: lget Y 170 :: lget Y 171 :: lget Y 172 :: lget Y 173 :: lget Y 174 :: lget Y 175 :: lget Y 176 :: lget Y 177 :: lget Y 178 :: lget Y 179 :: lget Y 180 :: lget Y 181 :: lget Y 182 :: lget Y 183 :: lget Y 184 :: lget Y 185 :: lget Y 186 :: lget Y 187 :: lget Y 188 :: lget Y 189 :: lget Y 190 :: lget Y 191 :: lget Y 192 :: lget Y 193 :: lget Y 194 :: lget Y 195 :: lget Y 196 :: lget Y 197 :: lget Y 198 :: lget Y 199 :: lget Y 200 :: lget Y 201 :: lget Y 202 :: lget Y 203 :: lget Y 204 :: lget Y 205 :: lget Y 206 :: lget Y 207 :: lget Y 208 :: lget Y 209 :: lget Y 210 :: lget Y 211 :: lget Y 212 :: p :: lget Y 213 :: lget Y 214 :: lget Y 215 :: lget Y 216 :: lget Y 217 :: lget Y 218 :: lget Y 219 :: lget Y 220 :: lget Y 221 :: lget Y 222 :: lget Y 223 :: lget Y 224 :: lget Y 225 :: lget Y 226 :: lget Y 227 :: lget Y 228 :: lget Y 229 :: lget Y 230 :: lget Y 231 :: lget Y 232 :: lget Y 233 :: lget Y 234 :: lget Y 235 :: [])) ⟨[_,_,_,_,_,_,_,_,_,_,_,_,_,_,_,_,_,_,_,_,_,_,_,_,_,_,_,_,_,_,_,_,_,_,_,_,_,_,_,_,_,_,_,_,_,_,_,_,_,_,_,_,_,_,_,_,_,_,_,_,_,_,_,_,_,_,_,_,_,_,_,_,_,_,_,_,_,_,_,_,_,_,_,_,_,_,_,_,_,_,_,_,_,_,_,_,_,_,_,_,_,_,_,_,_,_,_,_,_,_,_,_,_,_,_,_,_,_,_,_,_,_,_,_,_,_,_,_,_,_,_,_,_,_,_,_,_,_,_,_,_,_,_,_,_,_,_,_,_,_,_,_,_,_,_,_,_,_,_,_,_,_,_,_,_,_,_,_,_,_,_,_,_,_,_,_,_,_,_,_,_,_,_,_,_,_,_,_,_,_,_,_,_,_,_,_,_,_,_,_,_,_,_,_,_,_,_,_,_,_,_,_,_,_,_,_,_,_,_,_,_,_,_,_,_,_,_,_,_,_,_,_,_,_,_,_], rfl⟩ ?_
   rintro T ⟨Y, rfl⟩
   refine wops_cons (o_lenI rfl rfl rfl rfl rfl hph.sl ?_)
   have heq : ∀ a b : Int, binI .eql .i64 .i64 a b = some (.bool (decide (a = b))) := fun a b => by simp [binI]; rfl
   repeat (first | apply qN | refine qM rfl rfl ?_ | apply qB)
   refine wp_loop (fun m T M H' => ∃ (u : Nat) (Y : List AV), m = tk.length - u ∧ u ≤ tk.length ∧ lkP2 (r.f + r.t) 0 tk = lkP2 (r.f + r.t) u (tk.drop u) ∧ H' = Hh ∧ M = [] ∧ T = (lget Y 0 :: lget Y 1 :: .ptr RB 0 :: lget Y 2 :: lget Y 3 :: lget Y 4 :: .ptr SB 0 :: lget Y 5 :: lget Y 6 :: lget Y 7 :: lget Y 8 :: lget Y 9 :: lget Y 10 :: lget Y 11 :: lget Y 12 :: lget Y 13 :: lget Y 14 :: lget Y 15 :: lget Y 16 :: lget Y 17 :: lget Y 18 :: lget Y 19 :: lget Y 20 :: iv (lkP2 (r.f + r.t) 0 tk).1 :: iv (lkP2 (r.f + r.t) 0 tk).2 :: lget Y 21 :: lget Y 22 :: lget Y 23 :: lget Y 24 :: lget Y 25 :: lget Y 26 :: lget Y 27 :: lget Y 28 :: lget Y 29 :: lget Y 30 :: lget Y 31 :: lget Y 32 :: lget Y 33 :: lget Y 34 :: lget Y 35 :: lget Y 36 :: lget Y 37 :: lget Y 38 :: lget Y 39 :: lget Y 40 :: lget Y 41 :: lget Y 42 :: lget Y 43 :: lget Y 44 :: lget Y 45 :: lget Y 46 :: lget Y 47 :: lget Y 48 :: lget Y 49 :: lget Y 50 :: lget Y 51 :: lget Y 52 :: lget Y 53 :: lget Y 54 :: lget Y 55 :: lget Y 56 :: lget Y 57 :: lget Y 58 :: lget Y 59 :: lget Y 60 :: lget Y 61 :: lget Y 62 :: lget Y 63 :: lget Y 64 :: lget Y 65 :: lget Y 66 :: lget Y 67 :: lget Y 68 :: lget Y 69 :: lget Y 70 :: lget Y 71 :: lget Y 72 :: lget Y 73 :: lget Y 74 :: lget Y 75 :: lget Y 76 :: lget Y 77 :: lget Y 78 :: lget Y 79 :: lget Y 80 :: lget Y 81 :: lget Y 82 :: lget Y 83 :: lget Y 84 :: lget Y 85 :: lget Y 86 :: lget Y 87 :: lget Y 88 :: lget Y 89 :: lget Y 90 :: lget Y 91 :: lget Y 92 :: lget Y 93 :: lget Y 94 :: lget Y 95 :: lget Y 96 :: lget Y 97 :: lget Y 98 :: lget Y 99 :: lget Y 100 :: lget Y 101 :: lget Y 102 :: lget Y 103 :: lget Y 104 :: lget Y 105 :: lget Y 106 :: lget Y 107 :: lget Y 108 :: lget Y 109 :: lget Y 110 :: lget Y 111 :: lget Y 112 :: lget Y 113 :: lget Y 114 :: lget Y 115 :: lget Y 116 :: lget Y 117 :: lget Y 118 :: lget Y 119 :: lget Y 120 :: lget Y 121 :: lget Y 122 :: lget Y 123 :: lget Y 124 :: lget Y 125 :: lget Y 126 :: lget Y 127 :: lget Y 128 :: lget Y 129 :: lget Y 130 :: lget Y 131 :: lget Y 132 :: lget Y 133 :: lget Y 134 :: lget Y 135 :: lget Y 136 :: lget Y 137 :: lget Y 138 :: lget Y 139 :: lget Y 140 :: lget Y 141 :: lget Y 142 :: lget Y 143 :: lget Y 144 :: lget Y 145 :: lget Y 146 :: lget Y 147 :: lget Y 148 :: lget Y 149 :: lget Y 150 :: lget Y 151 :: lget Y 152 :: lget Y 153 :: lget Y 154 :: lget Y 155 :: lget Y 156 :: lget Y 157 :: lget Y 158 :: lget Y 159 :: lget Y 160 :: lget Y 161 :: lget Y 162 :: lget Y 163 :: lget Y 164 :: lget Y 165 :: lget Y 166 :: lget Y 167 :: lget Y 168 :: lget Y 169 :: lget Y 170 :: lget Y 171 :: lget Y 172 :: lget Y 173 :: lget Y 174 :: lget Y 175 :: lget Y 176 :: lget Y 177 :: lget Y 178 :: lget Y 179 :: lget Y 180 :: lget Y 181 :: lget Y 182 :: lget Y 183 :: lget Y 184 :: lget Y 185 :: lget Y 186 :: lget Y 187 :: lget Y 188 :: lget Y 189 :: lget Y 190 :: lget Y 191 :: lget Y 192 :: lget Y 193 :: lget Y 194 :: lget Y 195 :: lget Y 196 :: lget Y 197 :: lget Y 198 :: lget Y 199 :: lget Y 200 :: lget Y 201 :: lget Y 202 :: lget Y 203 :: lget Y 204 :: lget Y 205 :: lget Y 206 :: lget Y 207 :: lget Y 208 :: lget Y 209 :: lget Y 210 :: lget Y 211 :: lget Y 212 :: p :: iv (tk.length : Nat) :: iv (u : Nat) :: lget Y 213 :: lget Y 214 :: lget Y 215 :: lget Y 216 :: lget Y 217 :: lget Y 218 :: lget Y 219 :: lget Y 220 :: lget Y 221 :: lget Y 222 :: lget Y 223 :: lget Y 224 :: lget Y 225 :: lget Y 226 :: lget Y 227 :: lget Y 228 :: lget Y 229 :: lget Y 230 :: lget Y 231 :: lget Y 232 :: lget Y 233 :: [])) tk.length
     ⟨0, [_,_,_,_,_,_,_,_,_,_,_,_,_,_,_,_,_,_,_,_,_,_,_,_,_,_,_,_,_,_,_,_,_,_,_,_,_,_,_,_,_,_,_,_,_,_,_,_,_,_,_,_,_,_,_,_,_,_,_,_,_,_,_,_,_,_,_,_,_,_,_,_,_,_,_,_,_,_,_,_,_,_,_,_,_,_,_,_,_,_,_,_,_,_,_,_,_,_,_,_,_,_,_,_,_,_,_,_,_,_,_,_,_,_,_,_,_,_,_,_,_,_,_,_,_,_,_,_,_,_,_,_,_,_,_,_,_,_,_,_,_,_,_,_,_,_,_,_,_,_,_,_,_,_,_,_,_,_,_,_,_,_,_,_,_,_,_,_,_,_,_,_,_,_,_,_,_,_,_,_,_,_,_,_,_,_,_,_,_,_,_,_,_,_,_,_,_,_,_,_,_,_,_,_,_,_,_,_,_,_,_,_,_,_,_,_,_,_,_,_,_,_,_,_,_,_,_,_,_,_,_,_,_,_], rfl, Nat.zero_le _, rfl, rfl, rfl, rfl⟩ ?_
   rintro m2 T M H' ⟨u, Y, hm2, hu, hlk, rfl, rfl, rfl⟩
   repeat (first | apply qR | apply qS)
   refine wops_cons (wop_cmp rfl rfl rfl rfl rfl (fun h => ?_) (fun h => ?_))
   rotate_left
   · have h : ¬ ((u : Int) < (tk.length : Nat)) := of_decide_eq_false h
     have e : u = tk.length := by omega
     subst e
     rw [List.drop_length] at hlk
     rw [hlk]
     repeat (first | apply qN | refine qM rfl rfl ?_ | refine qF rfl ?_ | apply qR | apply qS | apply qE)
     refine wops_cons (wop_bin (op := .eql) (v := .bool true) rfl rfl rfl rfl rfl ?_)
     repeat (first | apply qN | refine qM rfl rfl ?_)
     refine wp_ret ?_
     exact ⟨_, _, rfl, hk _⟩
   have hu' : u < tk.length := by have h : (u : Int) < (tk.length : Nat) := of_decide_eq_true h; omega
   clear h
   obtain ⟨w, hw⟩ := l_some hu'
   rw [drop_cons hw, lkP2] at hlk
   repeat (first | apply qN | refine qM rfl rfl ?_ | refine qT rfl ?_ | apply qR | apply qS | apply qK | apply qB)
   refine wops_cons (o_indexI rfl rfl hph.sl rfl hw fun pp hpp => ?_)
   repeat (first | apply qN | refine qM rfl rfl ?_ | refine zqa rfl rfl rfl ?_ | refine zq6 rfl rfl ‹_› ?_ | apply qR | apply qS)
   refine wops_cons (wop_bin (op := .add) (v := .int .i64 (r.f + r.t)) rfl rfl rfl rfl (addI (by omega)) ?_)
   by_cases hwz : w < r.f + r.t
   · rw [if_pos hwz] at hlk
     refine wops_cons (wop_bin (op := .lss) (v := .bool true) rfl rfl rfl rfl (by simp [binI, hwz]) ?_)
     rw [hlk]
     repeat (first | apply qN | refine qM rfl rfl ?_ | refine qT rfl ?_ | apply qR | apply qS)
     refine wops_cons (wop_bin (op := .eql) (v := .bool true) rfl rfl rfl rfl rfl ?_)
     repeat (first | refine qM rfl rfl ?_)
     refine wops_cons (wop_bin (op := .eql) (v := .bool (decide ((u : Int) = (u : Int)))) rfl rfl rfl rfl (heq _ _) ?_)
     rw [decide_eq_true rfl]
     repeat (first | apply qN | refine qM rfl rfl ?_ | refine zq7 rfl rfl rfl ?_)
     refine wp_ret ?_
     exact ⟨_, _, rfl, hk _⟩
   · rw [if_neg hwz] at hlk
     refine wops_cons (wop_bin (op := .lss) (v := .bool false) rfl rfl rfl rfl (by simp [binI, hwz]) ?_)
     repeat (first | apply qN | refine qM rfl rfl ?_ | refine zq4 rfl rfl rfl rfl (inc (by omega)) ?_ | refine qF rfl ?_ | apply qR | apply qK)
     exact ⟨tk.length - (u + 1), by omega, u + 1, [_,_,_,_,_,_,_,_,_,_,_,_,_,_,_,_,_,_,_,_,_,_,_,_,_,_,_,_,_,_,_,_,_,_,_,_,_,_,_,_,_,_,_,_,_,_,_,_,_,_,_,_,_,_,_,_,_,_,_,_,_,_,_,_,_,_,_,_,_,_,_,_,_,_,_,_,_,_,_,_,_,_,_,_,_,_,_,_,_,_,_,_,_,_,_,_,_,_,_,_,_,_,_,_,_,_,_,_,_,_,_,_,_,_,_,_,_,_,_,_,_,_,_,_,_,_,_,_,_,_,_,_,_,_,_,_,_,_,_,_,_,_,_,_,_,_,_,_,_,_,_,_,_,_,_,_,_,_,_,_,_,_,_,_,_,_,_,_,_,_,_,_,_,_,_,_,_,_,_,_,_,_,_,_,_,_,_,_,_,_,_,_,_,_,_,_,_,_,_,_,_,_,_,_,_,_,_,_,_,_,_,_,_,_,_,_,_,_,_,_,_,_,_,_,_,_,_,_,_,_,_,_,_,_], rfl, by omega, hlk, rfl, rfl, rfl⟩
 have hi' : i < ks.length := by have h : (i : Int) < (ks.length : Nat) := of_decide_eq_true h; omega
 clear h
 obtain ⟨k, hkk⟩ := t_some hi'
 have hmk : tukE r k = 0 := htk k (List.mem_of_getElem? hkk)
 have he0 : errE r tk gp k = 0 := by unfold errE; rw [hst6, hmk]; rfl
 have hdr := dropT hkk
 have he1 := hI.e1
 have he2 := hI.e2
 rw [hdr, rpS] at he1 he2
 obtain ⟨j, z, g, hT, hlg⟩ := tkd_of hst6 hmk
 obtain ⟨en1, en2⟩ := hT.nx
 repeat (first | apply qN | refine qM rfl rfl ?_ | refine qT rfl ?_ | apply qR | apply qS | apply qK | apply qB)
 refine wp_drawK rfl ?_
 refine k_load4 rfl rfl rfl rfl b26 L2 ?_
 refine k_load4 rfl rfl rfl rfl bs6 L3 ?_
 refine k_call rfl rfl rfl (fun b h => by cases h) (wop_callF rfl rfl rfl (fn := Tryz.f9) (by rfl) ?_)
 refine c9 hq H6 _ p q rfl hp6.sl.one hq6.sl.one (by omega) _ fun H7 k7 n7 => ⟨k7.nx, k7, ?_⟩
 refine k_call rfl rfl rfl (fun b h => by cases h) (wop_callF rfl rfl rfl (fn := Tryz.f36) (by rfl) ?_)
 refine c36 hq H7 r _ rfl p q tk gp (hp6.keep k7) (hq6.keep k7) (by omega) (by omega) hru (by omega) _ fun H8 k8 n8 => ⟨k8.nx, k7.trans k8, ?_⟩
 rw [hst6]
 refine k_bin (op := .neq) (v := .bool false) rfl rfl rfl rfl rfl rfl ?_
 have k68 := k7.trans k8
 have x7 := k7.nx
 have x8 := k8.nx
 have hy8 := hy6.keep k68
 have b18 := b16.keep (by omega) k68
 have b28 := b26.keep (by omega) k68
 have bs8 := bs6.keep hsl k68
 have hp8 := hp6.keep k68
 have hq8 := hq6.keep k68
 have n8' : H8.next ≤ H6.next + 10 := by omega
 have sb8 : beqs [p, q] [p, q] = true := sb6
 have x68 := k68.nx
 clear k7 k8 n7 n8 x7
 repeat (first | refine k_nil ?_ | refine qF rfl ?_ | apply qS | apply qK)
 refine Wp.cut (fun T => ∃ Y : List AV, T = (lget Y 0 :: yv :: .ptr RB 0 :: lget Y 1 :: .v (.bool false) :: .ptr XB 0 :: .ptr SB 0 :: lget Y 2 :: rr :: iv (ag : Nat) :: iv (i : Nat) :: lget Y 3 :: lget Y 4 :: lget Y 5 :: lget Y 6 :: lget Y 7 :: lget Y 8 :: lget Y 9 :: lget Y 10 :: lget Y 11 :: lget Y 12 :: lget Y 13 :: lget Y 14 :: lget Y 15 :: lget Y 16 :: lget Y 17 :: lget Y 18 :: lget Y 19 :: lget Y 20 :: lget Y 21 :: lget Y 22 :: lget Y 23 :: lget Y 24 :: lget Y 25 :: lget Y 26 :: lget Y 27 :: lget Y 28 :: lget Y 29 :: lget Y 30 :: lget Y 31 :: lget Y 32 :: lget Y 33 :: lget Y 34 :: lget Y 35 :: lget Y 36 :: lget Y 37 :: lget Y 38 :: lget Y 39 :: lget Y 40 :: lget Y 41 :: lget Y 42 :: lget Y 43 :: lget Y 44 :: lget Y 45 :: lget Y 46 :: yv :: iv (ks.length : Nat) :: iv (i : Nat) :: lget Y 47 :: lget Y 48 :: lget Y 49 :: lget Y 50 :: lget Y 51 :: lget Y 52 :: lget Y 53 :: lget Y 54 :: lget Y 55 :: lget Y 56 :: lget Y 57 :: lget Y 58 :: lget Y 59 :: lget Y 60 :: lget Y 61 :: lget Y 62 :: lget Y 63 :: lget Y 64 :: lget Y 65 :: lget Y 66 :: lget Y 67 :: lget Y 68 :: lget Y 69 :: lget Y 70 :: lget Y 71 :: lget Y 72 :: lget Y 73 :: lget Y 74 :: lget Y 75 :: lget Y 76 :: lget Y 77 :: lget Y 78 :: lget Y 79 :: lget Y 80 :: lget Y 81 :: lget Y 82 :: lget Y 83 :: lget Y 84 :: lget Y 85 :: lget Y 86 :: lget Y 87 :: lget Y 88 :: lget Y 89 :: lget Y 90 :: lget Y 91 :: lget Y 92 :: lget Y 93 :: lget Y 94 :: lget Y 95 :: lget Y 96 :: lget Y 97 :: lget Y 98 :: lget Y 99 :: lget Y 100 :: lget Y 101 :: lget Y 102 :: lget Y 103 :: lget Y 104 :: lget Y 105 :: lget Y 106 :: lget Y 107 :: lget Y 108 :: lget Y 109 :: lget Y 110 :: lget Y 111 :: lget Y 112 :: lget Y 113 :: lget Y 114 :: lget Y 115 :: lget Y 116 :: lget Y 117 :: lget Y 118 :: lget Y 119 :: lget Y 120 :: lget Y 121 :: lget Y 122 :: lget Y 123 :: lget Y 124 :: lget Y 125 :: lget Y 126 :: lget Y 127 :: lget Y 128 :: lget Y 129 :: lget Y 130 :: lget Y 131 :: lget Y 132 :: lget Y 133 :: lget Y 134 :: lget Y 135 :: lget Y 136 :: lget Y 137 :: lget Y 138 :: lget Y 139 :: lget Y 140 :: lget Y 141 :: lget Y 142 :: lget Y 143 :: lget Y 144 :: lget Y 145 :: lget Y 146 :: lget Y 147 :: lget Y 148 :: lget Y 149 :: lget Y 150 :: lget Y 151 :: lget Y 152 :: lget Y 153 :: lget Y 154 :: lget Y 155 :: lget Y 156 :: lget Y 157 :: lget Y 158 :: lget Y 159 :: lget Y 160 :: lget Y 161 :: lget Y 162 :: lget Y 163 :: lget Y 164 :: lget Y 165 :: lget Y 166 :: lget Y 167 :: lget Y 168 :: lget Y 169 :: lget Y 170 :: lget Y 171 :: lget Y 172 :: lget Y 173 :: lget Y 174 :: lget Y 175 :: lget Y 176 :: lget Y 177 :: lget Y 178 :: lget Y 179 :: lget Y 180 :: lget Y 181 :: lget Y 182 :: lget Y 183 :: lget Y 184 :: lget Y 185 :: lget Y 186 :: lget Y 187 :: lget Y 188 :: lget Y 189 :: lget Y 190 :: lget Y 191 :: lget Y 192 :: lget Y 193 :: lget Y 194 :: lget Y 195 :: lget Y 196 :: lget Y 197 :: lget Y 198 :: lget Y 199 :: lget Y 200 :: lget Y 201 :: lget Y 202 :: lget Y 203 :: lget Y 204 :: lget Y 205 :: lget Y 206 :: lget Y 207 :: lget Y 208 :: lget Y 209 :: lget Y 210 :: lget Y 211 :: lget Y 212 :: lget Y 213 :: lget Y 214 :: lget Y 215 :: lget Y 216 :: lget Y 217 :: lget Y 218 :: lget Y 219 :: lget Y 220 :: lget Y 221 :: lget Y 222 :: lget Y 223 :: lget Y 224 :: lget Y 225 :: lget Y 226 :: lget Y 227 :: lget Y 228 :: lget Y 229 :: [])) ⟨[_,_,_,_,_,_,_,_,_,_,_,_,_,_,_,_,_,_,_,_,_,_,_,_,_,_,_,_,_,_,_,_,_,_,_,_,_,_,_,_,_,_,_,_,_,_,_,_,_,_,_,_,_,_,_,_,_,_,_,_,_,_,_,_,_,_,_,_,_,_,_,_,_,_,_,_,_,_,_,_,_,_,_,_,_,_,_,_,_,_,_,_,_,_,_,_,_,_,_,_,_,_,_,_,_,_,_,_,_,_,_,_,_,_,_,_,_,_,_,_,_,_,_,_,_,_,_,_,_,_,_,_,_,_,_,_,_,_,_,_,_,_,_,_,_,_,_,_,_,_,_,_,_,_,_,_,_,_,_,_,_,_,_,_,_,_,_,_,_,_,_,_,_,_,_,_,_,_,_,_,_,_,_,_,_,_,_,_,_,_,_,_,_,_,_,_,_,_,_,_,_,_,_,_,_,_,_,_,_,_,_,_,_,_,_,_,_,_,_,_,_,_,_,_,_,_,_,_,_,_], rfl⟩ ?_
 rintro T ⟨Y, rfl⟩
 refine wp_drawK rfl ?_
 refine k_load4 rfl rfl rfl rfl b18 (lkP (n := 0) b18 (by omega) (ru_beq r)) ?_
 refine k_load4 rfl rfl rfl rfl bs8 (lkP (n := 0) bs8 (by omega) sb6) ?_
 refine k_move rfl rfl rfl ?_
 refine k_move rfl rfl rfl ?_
 refine k_indexR rfl rfl rfl hy8.sl rfl (tks_get hkk) rfl hy8.lk fun pp hpp hpl => ?_
 refine k_loadR rfl rfl rfl hpp rfl rfl hpl fun v hv => ?_
 refine k_call rfl rfl rfl (fun b h => by cases h) (wop_callF rfl rfl rfl (fn := Tryz.f19) (by rfl) ?_)
 refine c19 hq H8 r k _ _ p q tk gp rfl hv hp8 hq8 (by omega) (by omega) (by omega) _ (fun h => absurd he0 h) fun _ H9 k9 n9 => ⟨k9.nx, k9, ?_⟩
 have x9 := k9.nx
 have hy9 := hy8.keep k9
 have b19 := b18.keep (by omega) k9
 have b29 := b28.keep (by omega) k9
 have bs9 := bs8.keep (by omega) k9
 have hp9 := hp8.keep k9
 have hq9 := hq8.keep k9
 have k69 := k68.trans k9
 refine k_move rfl rfl rfl ?_
 refine k_extract rfl rfl rfl rfl rfl ?_
 refine k_extract rfl rfl rfl rfl rfl ?_
 repeat (first | refine k_nil ?_ | refine k_assign rfl rfl rfl ?_ | apply qS)
 refine Wp.cut (fun T => ∃ Y : List AV, T = (lget Y 0 :: yv :: .ptr RB 0 :: lget Y 1 :: .v (.bool false) :: .ptr XB 0 :: .ptr SB 0 :: lget Y 2 :: rr :: iv (ag : Nat) :: iv (i : Nat) :: iv (lgE r tk gp k) :: iv 0 :: lget Y 3 :: lget Y 4 :: lget Y 5 :: lget Y 6 :: lget Y 7 :: lget Y 8 :: lget Y 9 :: lget Y 10 :: lget Y 11 :: lget Y 12 :: lget Y 13 :: lget Y 14 :: lget Y 15 :: lget Y 16 :: lget Y 17 :: lget Y 18 :: lget Y 19 :: lget Y 20 :: lget Y 21 :: lget Y 22 :: lget Y 23 :: lget Y 24 :: lget Y 25 :: lget Y 26 :: lget Y 27 :: lget Y 28 :: lget Y 29 :: lget Y 30 :: lget Y 31 :: lget Y 32 :: lget Y 33 :: lget Y 34 :: lget Y 35 :: lget Y 36 :: lget Y 37 :: lget Y 38 :: lget Y 39 :: lget Y 40 :: lget Y 41 :: lget Y 42 :: lget Y 43 :: lget Y 44 :: yv :: iv (ks.length : Nat) :: iv (i : Nat) :: lget Y 45 :: lget Y 46 :: lget Y 47 :: lget Y 48 :: lget Y 49 :: lget Y 50 :: lget Y 51 :: lget Y 52 :: lget Y 53 :: lget Y 54 :: lget Y 55 :: lget Y 56 :: lget Y 57 :: lget Y 58 :: lget Y 59 :: lget Y 60 :: lget Y 61 :: lget Y 62 :: lget Y 63 :: lget Y 64 :: lget Y 65 :: lget Y 66 :: lget Y 67 :: lget Y 68 :: lget Y 69 :: lget Y 70 :: lget Y 71 :: lget Y 72 :: lget Y 73 :: lget Y 74 :: lget Y 75 :: lget Y 76 :: lget Y 77 :: lget Y 78 :: lget Y 79 :: lget Y 80 :: lget Y 81 :: lget Y 82 :: lget Y 83 :: lget Y 84 :: lget Y 85 :: lget Y 86 :: lget Y 87 :: lget Y 88 :: lget Y 89 :: lget Y 90 :: lget Y 91 :: lget Y 92 :: lget Y 93 :: lget Y 94 :: lget Y 95 :: lget Y 96 :: lget Y 97 :: lget Y 98 :: lget Y 99 :: lget Y 100 :: lget Y 101 :: lget Y 102 :: lget Y 103 :: lget Y 104 :: lget Y 105 :: lget Y 106 :: lget Y 107 :: lget Y 108 :: lget Y 109 :: lget Y 110 :: lget Y 111 :: lget Y 112 :: lget Y 113 :: lget Y 114 :: lget Y 115 :: lget Y 116 :: lget Y 117 :: lget Y 118 :: lget Y 119 :: lget Y 120 :: lget Y 121 :: lget Y 122 :: lget Y 123 :: lget Y 124 :: lget Y 125 :: lget Y 126 :: lget Y 127 :: lget Y 128 :: lget Y 129 :: lget Y 130 :: lget Y 131 :: lget Y 132 :: lget Y 133 :: lget Y 134 :: lget Y 135 :: lget Y 136 :: lget Y 137 :: lget Y 138 :: lget Y 139 :: lget Y 140 :: lget Y 141 :: lget Y 142 :: lget Y 143 :: lget Y 144 :: lget Y 145 :: lget Y 146 :: lget Y 147 :: lget Y 148 :: lget Y 149 :: lget Y 150 :: lget Y 151 :: lget Y 152 :: lget Y 153 :: lget Y 154 :: lget Y 155 :: lget Y 156 :: lget Y 157 :: lget Y 158 :: lget Y 159 :: lget Y 160 :: lget Y 161 :: lget Y 162 :: lget Y 163 :: lget Y 164 :: lget Y 165 :: lget Y 166 :: lget Y 167 :: lget Y 168 :: lget Y 169 :: lget Y 170 :: lget Y 171 :: lget Y 172 :: lget Y 173 :: lget Y 174 :: lget Y 175 :: lget Y 176 :: lget Y 177 :: lget Y 178 :: lget Y 179 :: lget Y 180 :: lget Y 181 :: lget Y 182 :: lget Y 183 :: lget Y 184 :: lget Y 185 :: lget Y 186 :: lget Y 187 :: lget Y 188 :: lget Y 189 :: lget Y 190 :: lget Y 191 :: lget Y 192 :: lget Y 193 :: lget Y 194 :: lget Y 195 :: lget Y 196 :: lget Y 197 :: lget Y 198 :: lget Y 199 :: lget Y 200 :: lget Y 201 :: lget Y 202 :: lget Y 203 :: lget Y 204 :: lget Y 205 :: lget Y 206 :: lget Y 207 :: lget Y 208 :: lget Y 209 :: lget Y 210 :: lget Y 211 :: lget Y 212 :: lget Y 213 :: lget Y 214 :: lget Y 215 :: lget Y 216 :: lget Y 217 :: lget Y 218 :: lget Y 219 :: lget Y 220 :: lget Y 221 :: lget Y 222 :: lget Y 223 :: lget Y 224 :: lget Y 225 :: lget Y 226 :: lget Y 227 :: [])) ⟨[_,_,_,_,_,_,_,_,_,_,_,_,_,_,_,_,_,_,_,_,_,_,_,_,_,_,_,_,_,_,_,_,_,_,_,_,_,_,_,_,_,_,_,_,_,_,_,_,_,_,_,_,_,_,_,_,_,_,_,_,_,_,_,_,_,_,_,_,_,_,_,_,_,_,_,_,_,_,_,_,_,_,_,_,_,_,_,_,_,_,_,_,_,_,_,_,_,_,_,_,_,_,_,_,_,_,_,_,_,_,_,_,_,_,_,_,_,_,_,_,_,_,_,_,_,_,_,_,_,_,_,_,_,_,_,_,_,_,_,_,_,_,_,_,_,_,_,_,_,_,_,_,_,_,_,_,_,_,_,_,_,_,_,_,_,_,_,_,_,_,_,_,_,_,_,_,_,_,_,_,_,_,_,_,_,_,_,_,_,_,_,_,_,_,_,_,_,_,_,_,_,_,_,_,_,_,_,_,_,_,_,_,_,_,_,_,_,_,_,_,_,_,_,_,_,_,_,_], rfl⟩ ?_
 rintro T ⟨Y, rfl⟩
 refine wp_drawK rfl ?_
 refine k_load4 rfl rfl rfl rfl b19 (lkP (n := 0) b19 (by omega) (ru_beq r)) ?_
 refine k_load4 rfl rfl rfl rfl bs9 (lkP (n := 0) bs9 (by omega) sb6) ?_
 refine k_move rfl rfl rfl ?_
 refine k_move rfl rfl rfl ?_
 refine k_indexR rfl rfl rfl hy9.sl rfl (tks_get hkk) rfl hy9.lk fun pp hpp hpl => ?_
 refine k_loadR rfl rfl rfl hpp rfl rfl hpl fun v2 hv2 => ?_
 refine k_call rfl rfl rfl (fun b h => by cases h) (wop_callF rfl rfl rfl (fn := Tryz.f20) (by rfl) ?_)
 by_cases hz0 : lgE r tk gp k = 0
 rotate_left
 · -- refused
   have hnx : nxtE r tk gp k = 18 := by unfold nxtE; rw [if_pos he0, if_neg hz0]
   rw [if_neg hz0] at he1 he2
   refine c20x hq H9 r k _ _ p q tk gp rfl hv2 hp9 hq9 (by omega) (by omega) (by omega) _ (fun _ Ha ka na => ⟨ka.nx, ka, ?_⟩) (fun h => by rw [hnx] at h; exact absurd h (by decide))
   rw [hnx]
   have xa := ka.nx
   have ra : Ha.next < 2 ^ 59 := by omega
   refine k_move rfl rfl rfl ?_
   refine k_extract rfl rfl rfl rfl rfl ?_
   refine k_extract rfl rfl rfl rfl rfl ?_
   refine k_allocA (zs := [.v (.slice none 0 0), .v (.slice none 0 0)]) rfl rfl rfl (z := .agg #[.slice none 0 0, .slice none 0 0]) (by kernel_rfl) rfl ra ?_
   refine k_loud rfl rfl (o_storeA (n := 2) (vs := [.v (.slice none 0 0), .v (.slice none 0 0)]) rfl rfl (by kernel_rfl) rfl rfl rfl rfl (get_add_eq ra) (Nat.le_refl _) ⟨(ka.add _ ra).set _ (by omega) ra, ?_⟩)
   refine WK.mem (fun Hb => Keeps H9 Hb ∧ Hb.next = Ha.next + 1) ⟨(ka.add _ ra).set _ (by omega) ra, rfl⟩ ?_
   rintro Hb ⟨kb, nb⟩
   have k6b := k69.trans kb
   have hw := lgE_rg (r := r) (tk := tk) (gp := gp) (k := k)
   generalize lgE r tk gp k = w at hz0 hw he1 he2 ⊢
   show WK _ _ _ _ _ _ _
   repeat (first | refine qM rfl rfl ?_ | refine k_nil ?_ | refine k_assign rfl rfl rfl ?_ | apply qR | apply qS)
   refine wops_cons (wop_bin (op := .neq) (v := .bool false) rfl rfl rfl rfl rfl ?_)
   repeat (first | refine qM rfl rfl ?_)
   refine wops_cons (wop_bin (op := .eql) (v := .bool false) rfl rfl rfl rfl (by simp [binI]; omega) ?_)
   repeat (first | refine qM rfl rfl ?_)
   refine wops_cons (wop_bin (op := .eql) (v := .bool false) rfl rfl rfl rfl rfl ?_)
   refine wops_cons (wop_val (r := .v (.bool false)) (H' := Hb) rfl rfl (by kernel_rfl) (Nat.le_refl _) ?_)
   repeat (first | refine qM rfl rfl ?_ | refine zq7 rfl rfl rfl ?_)
   refine wops_cons (wop_bin (op := .lss) (v := .bool false) rfl rfl rfl rfl (by simp [binI]; omega) ?_)
   repeat (first | refine qM rfl rfl ?_ | refine zq7 rfl rfl rfl ?_)
   refine wops_cons (wop_bin (op := .gtr) (v := .bool false) rfl rfl rfl rfl (by simp [binI]; omega) ?_)
   repeat (first | apply qN | refine qM rfl rfl ?_ | refine zq7 rfl rfl rfl ?_ | refine qF rfl ?_ | apply qR | apply qS | apply qK)
   refine wops_cons (wop_bin (op := .neq) (v := .bool true) rfl rfl rfl rfl (by simp [binI, hz0]) ?_)
   have hal := hI.al
   repeat (first | apply qN | refine qM rfl rfl ?_ | refine zq4 rfl rfl rfl rfl (inc (by omega)) ?_ | refine qT rfl ?_ | apply qR | apply qS | apply qE)
   refine ⟨ks.length - (i + 1), by omega, i + 1, ag + 1, p, q, rr, tk, gp, kk, [_,_,_,_,_,_,_,_,_,_,_,_,_,_,_,_,_,_,_,_,_,_,_,_,_,_,_,_,_,_,_,_,_,_,_,_,_,_,_,_,_,_,_,_,_,_,_,_,_,_,_,_,_,_,_,_,_,_,_,_,_,_,_,_,_,_,_,_,_,_,_,_,_,_,_,_,_,_,_,_,_,_,_,_,_,_,_,_,_,_,_,_,_,_,_,_,_,_,_,_,_,_,_,_,_,_,_,_,_,_,_,_,_,_,_,_,_,_,_,_,_,_,_,_,_,_,_,_,_,_,_,_,_,_,_,_,_,_,_,_,_,_,_,_,_,_,_,_,_,_,_,_,_,_,_,_,_,_,_,_,_,_,_,_,_,_,_,_,_,_,_,_,_,_,_,_,_,_,_,_,_,_,_,_,_,_,_,_,_,_,_,_,_,_,_,_,_,_,_,_,_,_,_,_,_,_,_,_,_,_,_,_,_,_,_,_,_,_,_,_,_,_,_,_,_,_,_,_,_,_,_], rfl, by omega, ⟨k46.trans k6b, ?_, by have := k6b.nx; omega, bs6.keep hsl k6b, hp6.keep k6b, hq6.keep k6b, hI.hG.keep k6b, hI.fr, hI.fg, hI.dj, hst6, by have := hI.kl; omega, by omega, he1, ?_, hI.e3, hI.kt⟩, rfl, rfl⟩
   · have := hI.nx; omega
   · rw [he2]; simp; omega
 -- accepted
 have hnx : nxtE r tk gp k = 0 := by unfold nxtE; rw [if_pos he0, if_pos hz0]
 rw [if_pos hz0] at he1 he2
 rw [hz0]
 clear hT hlg en1 en2
 refine c20x hq H9 r k _ _ p q tk gp rfl hv2 hp9 hq9 (by omega) (by omega) (by omega) _ (fun h => absurd hnx h) (fun _ Ha a1 a2 j' z' g' hT ka na hO1 hO2 => ⟨ka.nx, ka, ?_⟩)
 obtain ⟨en1, en2⟩ := hT.nx
 have hja := hT.a
 have hjz := hT.z
 have hjg := hT.g
 rw [← en1] at hO1
 rw [← en2] at hO2
 have hl1 : (nxT tk k).length = tk.length := by unfold nxT; rw [List.length_set]
 have hl2 : (nxG r gp k).length = gp.length := by unfold nxG; rw [List.length_set]
 have hsta2 := sta_next hst6 hmk hz0
 have xa := ka.nx
 have ra : Ha.next < 2 ^ 59 := by omega
 refine k_move rfl rfl rfl ?_
 refine k_extract rfl rfl rfl rfl rfl ?_
 refine k_extract rfl rfl rfl rfl rfl ?_
 refine k_allocA (zs := [.v (.slice none 0 0), .v (.slice none 0 0)]) rfl rfl rfl (z := .agg #[.slice none 0 0, .slice none 0 0]) (by kernel_rfl) rfl ra ?_
 refine k_loud rfl rfl (o_storeA (n := 2) (vs := [.slu a1 0 tk.length 1, .slu a2 0 gp.length 1]) rfl rfl (by kernel_rfl) rfl rfl rfl rfl (get_add_eq ra) (Nat.le_refl _) ⟨(ka.add _ ra).set _ (by omega) ra, ?_⟩)
 refine WK.mem (fun Hb => Keeps Ha Hb ∧ Hb.next = Ha.next + 1 ∧ Bk Hb Ha.next 26 [.slu a1 0 tk.length 1, .slu a2 0 gp.length 1]) ⟨((Keeps.refl Ha).add _ ra).set _ (Nat.le_refl _) ra, rfl, ⟨ra, get_set_eq ra⟩⟩ ?_
 rintro Hb ⟨kb, nb, bt⟩
 have k9b := ka.trans kb
 have hyb := hy9.keep k9b
 have b1b := b19.keep (by omega) k9b
 have b2b := b29.keep (by omega) k9b
 have bsb := bs9.keep (by omega) k9b
 have hpb := hp9.keep k9b
 have hqb := hq9.keep k9b
 have hO1 := hO1.keep kb
 have hO2 := hO2.keep kb
 have k6b := k69.trans k9b
 have hGb := hI.hG.keep k6b
 have htl : SB < Ha.next := by omega
 have nb' : Hb.next ≤ H6.next + 24000 := by omega
 have xb := kb.nx
 have hOk1 := hO1.ky
 have hOk2 := hO2.ky
 rw [hl1] at hOk1
 rw [hl2] at hOk2
 have hTl : Ha.next < Hb.next := by omega
 generalize hTB : Ha.next = TB at bt htl hTl ⊢
 have hT39 : TB < 2 ^ 59 := by omega
 clear ka kb k9b k69 k68 b19 b29 bs9 hp9 hq9 hy9 b18 b28 bs8 hp8 hq8 hy8 na nb n9 x9 xa ra hTB n8' x8 L1 L2 L3 b16 b26 hy6
 show WK _ _ _ _ _ _ _
 repeat (first | refine qM rfl rfl ?_ | refine k_nil ?_ | refine k_assign rfl rfl rfl ?_ | apply qR | apply qS)
 refine WOps.cut (fun T => ∃ Y : List AV, T = (lget Y 0 :: yv :: .ptr RB 0 :: lget Y 1 :: .v (.bool false) :: .ptr XB 0 :: .ptr SB 0 :: lget Y 2 :: rr :: iv (ag : Nat) :: iv (i : Nat) :: iv 0 :: iv 0 :: .ptr TB 0 :: iv 0 :: lget Y 3 :: lget Y 4 :: lget Y 5 :: lget Y 6 :: lget Y 7 :: lget Y 8 :: lget Y 9 :: lget Y 10 :: lget Y 11 :: lget Y 12 :: lget Y 13 :: lget Y 14 :: lget Y 15 :: lget Y 16 :: lget Y 17 :: lget Y 18 :: lget Y 19 :: lget Y 20 :: lget Y 21 :: lget Y 22 :: lget Y 23 :: lget Y 24 :: lget Y 25 :: lget Y 26 :: lget Y 27 :: lget Y 28 :: lget Y 29 :: lget Y 30 :: lget Y 31 :: lget Y 32 :: lget Y 33 :: lget Y 34 :: lget Y 35 :: lget Y 36 :: lget Y 37 :: lget Y 38 :: lget Y 39 :: lget Y 40 :: lget Y 41 :: lget Y 42 :: yv :: iv (ks.length : Nat) :: iv (i : Nat) :: lget Y 43 :: lget Y 44 :: lget Y 45 :: lget Y 46 :: lget Y 47 :: lget Y 48 :: lget Y 49 :: lget Y 50 :: lget Y 51 :: lget Y 52 :: lget Y 53 :: lget Y 54 :: lget Y 55 :: lget Y 56 :: lget Y 57 :: lget Y 58 :: lget Y 59 :: lget Y 60 :: lget Y 61 :: lget Y 62 :: lget Y 63 :: lget Y 64 :: lget Y 65 :: lget Y 66 :: lget Y 67 :: lget Y 68 :: lget Y 69 :: iv 0 :: lget Y 70 :: lget Y 71 :: lget Y 72 :: lget Y 73 :: lget Y 74 :: lget Y 75 :: lget Y 76 :: lget Y 77 :: lget Y 78 :: lget Y 79 :: lget Y 80 :: lget Y 81 :: lget Y 82 :: lget Y 83 :: lget Y 84 :: lget Y 85 :: lget Y 86 :: lget Y 87 :: lget Y 88 :: lget Y 89 :: lget Y 90 :: lget Y 91 :: lget Y 92 :: lget Y 93 :: lget Y 94 :: lget Y 95 :: lget Y 96 :: lget Y 97 :: lget Y 98 :: lget Y 99 :: lget Y 100 :: lget Y 101 :: lget Y 102 :: lget Y 103 :: lget Y 104 :: lget Y 105 :: lget Y 106 :: lget Y 107 :: lget Y 108 :: lget Y 109 :: lget Y 110 :: lget Y 111 :: lget Y 112 :: lget Y 113 :: lget Y 114 :: lget Y 115 :: lget Y 116 :: lget Y 117 :: lget Y 118 :: lget Y 119 :: lget Y 120 :: lget Y 121 :: lget Y 122 :: lget Y 123 :: lget Y 124 :: lget Y 125 :: lget Y 126 :: lget Y 127 :: lget Y 128 :: lget Y 129 :: lget Y 130 :: lget Y 131 :: lget Y 132 :: lget Y 133 :: lget Y 134 :: lget Y 135 :: lget Y 136 :: lget Y 137 :: lget Y 138 :: lget Y 139 :: lget Y 140 :: lget Y 141 :: lget Y 142 :: lget Y 143 :: lget Y 144 :: lget Y 145 :: lget Y 146 :: lget Y 147 :: lget Y 148 :: lget Y 149 :: lget Y 150 :: lget Y 151 :: lget Y 152 :: lget Y 153 :: lget Y 154 :: lget Y 155 :: lget Y 156 :: lget Y 157 :: lget Y 158 :: lget Y 159 :: lget Y 160 :: lget Y 161 :: lget Y 162 :: lget Y 163 :: lget Y 164 :: lget Y 165 :: lget Y 166 :: lget Y 167 :: lget Y 168 :: lget Y 169 :: lget Y 170 :: lget Y 171 :: lget Y 172 :: lget Y 173 :: lget Y 174 :: lget Y 175 :: lget Y 176 :: lget Y 177 :: lget Y 178 :: lget Y 179 :: lget Y 180 :: lget Y 181 :: lget Y 182 :: lget Y 183 :: lget Y 184 :: lget Y 185 :: lget Y 186 :: lget Y 187 :: lget Y 188 :: lget Y 189 :: lget Y 190 :: lget Y 191 :: lget Y 192 :: lget Y 193 :: lget Y 194 :: lget Y 195 :: lget Y 196 :: lget Y 197 :: lget Y 198 :: lget Y 199 :: lget Y 200 :: lget Y 201 :: lget Y 202 :: lget Y 203 :: lget Y 204 :: lget Y 205 :: lget Y 206 :: lget Y 207 :: lget Y 208 :: lget Y 209 :: lget Y 210 :: lget Y 211 :: lget Y 212 :: lget Y 213 :: lget Y 214 :: lget Y 215 :: lget Y 216 :: lget Y 217 :: lget Y 218 :: lget Y 219 :: lget Y 220 :: lget Y 221 :: lget Y 222 :: lget Y 223 :: lget Y 224 :: [])) ⟨[_,_,_,_,_,_,_,_,_,_,_,_,_,_,_,_,_,_,_,_,_,_,_,_,_,_,_,_,_,_,_,_,_,_,_,_,_,_,_,_,_,_,_,_,_,_,_,_,_,_,_,_,_,_,_,_,_,_,_,_,_,_,_,_,_,_,_,_,_,_,_,_,_,_,_,_,_,_,_,_,_,_,_,_,_,_,_,_,_,_,_,_,_,_,_,_,_,_,_,_,_,_,_,_,_,_,_,_,_,_,_,_,_,_,_,_,_,_,_,_,_,_,_,_,_,_,_,_,_,_,_,_,_,_,_,_,_,_,_,_,_,_,_,_,_,_,_,_,_,_,_,_,_,_,_,_,_,_,_,_,_,_,_,_,_,_,_,_,_,_,_,_,_,_,_,_,_,_,_,_,_,_,_,_,_,_,_,_,_,_,_,_,_,_,_,_,_,_,_,_,_,_,_,_,_,_,_,_,_,_,_,_,_,_,_,_,_,_,_,_,_,_,_,_,_], rfl⟩ ?_
 rintro T ⟨Y, rfl⟩
 clear hv hv2 hpp hpl pp
 refine wops_cons (wop_bin (op := .neq) (v := .bool false) rfl rfl rfl rfl rfl ?_)
 repeat (first | refine qM rfl rfl ?_)
 refine wops_cons (wop_bin (op := .eql) (v := .bool true) rfl rfl rfl rfl rfl ?_)
 repeat (first | refine qM rfl rfl ?_)
 refine wops_cons (wop_bin (op := .eql) (v := .bool true) rfl rfl rfl rfl rfl ?_)
 refine wops_cons (wop_val (r := .v (.bool false)) (H' := Hb) rfl rfl (by kernel_rfl) (Nat.le_refl _) ?_)
 repeat (first | refine qM rfl rfl ?_ | refine zq7 rfl rfl rfl ?_)
 refine wops_cons (wop_bin (op := .lss) (v := .bool false) rfl rfl rfl rfl rfl ?_)
 repeat (first | refine qM rfl rfl ?_ | refine zq7 rfl rfl rfl ?_)
 refine wops_cons (wop_bin (op := .gtr) (v := .bool false) rfl rfl rfl rfl rfl ?_)
 repeat (first | apply qN | refine qM rfl rfl ?_ | refine zq7 rfl rfl rfl ?_ | refine qF rfl ?_ | apply qR | apply qS | apply qK)
 refine wops_cons (wop_bin (op := .neq) (v := .bool false) rfl rfl rfl rfl rfl ?_)
 repeat (first | apply qN | refine qF rfl ?_ | apply qS | apply qK)
 refine wp_drawK rfl ?_
 refine k_load4 rfl rfl rfl rfl b2b (lkP (n := 0) b2b (by omega) (ru_beq r)) ?_
 refine k_load4 rfl rfl rfl rfl bt (lkP (n := 0) bt hTl (by simp [beqs, AV.beq])) ?_
 refine k_call rfl rfl rfl (fun b h => by cases h) (wop_callF rfl rfl rfl (fn := Tryz.f9) (by rfl) ?_)
 refine c9 hq Hb _ (.slu a1 0 tk.length 1) (.slu a2 0 gp.length 1) rfl rfl rfl (by omega) _ fun Hc kc nc => ⟨kc.nx, kc, ?_⟩
 refine k_call rfl rfl rfl (fun b h => by cases h) (wop_callF rfl rfl rfl (fn := Tryz.f36) (by rfl) ?_)
 refine c36 hq Hc r _ rfl _ _ (nxT tk k) (nxG r gp k) (hOk1.keep kc) (hOk2.keep kc) (by omega) (by omega) hru (by omega) _ fun Hd kd nd => ⟨kd.nx, kc.trans kd, ?_⟩
 rw [hsta2]
 refine k_bin (op := .neq) (v := .bool false) rfl rfl rfl rfl rfl rfl ?_
 have kbd := kc.trans kd
 have k6d := k6b.trans kbd
 have xd := kbd.nx
 have hyd := hyb.keep kbd
 have b1d := b1b.keep (by omega) kbd
 have bsd := bsb.keep (by omega) kbd
 have btd := bt.keep hTl kbd
 have hpd := hpb.keep kbd
 have hqd := hqb.keep kbd
 have hO1d := hO1.keep kbd
 have hO2d := hO2.keep kbd
 have hOk1d := hOk1.keep kbd
 have hOk2d := hOk2.keep kbd
 have hGd := hGb.keep kbd
 have nd' : Hd.next ≤ H6.next + 24010 := by omega
 have hxc := kc.nx
 clear kc kd kbd nc nd hyb b1b b2b bsb bt hpb hqb hO1 hO2 hOk1 hOk2 hGb
 have hwb : ∀ w ∈ tk, 0 ≤ w ∧ w ≤ 40 := fun w hw => by
   have hst := preE_ok (staE_ok hst6).1
   have h1 := hst.tk w hw
   omega
 have s0 : At Hd (.ptr SB 0) p := bsd.at rfl
 have s1 : At Hd (.ptr SB 1) q := bsd.at rfl
 have t0 : At Hd (.ptr TB 0) (.slu a1 0 tk.length 1) := btd.at rfl
 have t1 : At Hd (.ptr TB 1) (.slu a2 0 gp.length 1) := btd.at rfl
 have p0 : At Hd (.ptr RB 0) (iv (tk.length : Nat)) := by rw [hls]; exact b1d.at rfl
 repeat (first | apply qN | refine qM rfl rfl ?_ | refine zqa rfl rfl rfl ?_ | refine zq6 rfl rfl ‹_› ?_ | refine k_nil ?_ | refine qF rfl ?_ | apply qR | apply qS | apply qK | apply qB)
 refine Wp.cut (fun T => ∃ Y : List AV, T = (lget Y 0 :: yv :: .ptr RB 0 :: lget Y 1 :: .v (.bool false) :: .ptr XB 0 :: .ptr SB 0 :: lget Y 2 :: rr :: iv (ag : Nat) :: iv (i : Nat) :: lget Y 3 :: lget Y 4 :: .ptr TB 0 :: lget Y 5 :: lget Y 6 :: lget Y 7 :: lget Y 8 :: lget Y 9 :: lget Y 10 :: lget Y 11 :: lget Y 12 :: lget Y 13 :: lget Y 14 :: lget Y 15 :: lget Y 16 :: lget Y 17 :: lget Y 18 :: lget Y 19 :: lget Y 20 :: lget Y 21 :: lget Y 22 :: lget Y 23 :: lget Y 24 :: lget Y 25 :: lget Y 26 :: lget Y 27 :: lget Y 28 :: lget Y 29 :: lget Y 30 :: lget Y 31 :: lget Y 32 :: lget Y 33 :: lget Y 34 :: lget Y 35 :: lget Y 36 :: lget Y 37 :: lget Y 38 :: lget Y 39 :: lget Y 40 :: lget Y 41 :: lget Y 42 :: lget Y 43 :: lget Y 44 :: lget Y 45 :: yv :: iv (ks.length : Nat) :: iv (i : Nat) :: lget Y 46 :: lget Y 47 :: lget Y 48 :: lget Y 49 :: lget Y 50 :: lget Y 51 :: lget Y 52 :: lget Y 53 :: lget Y 54 :: lget Y 55 :: lget Y 56 :: lget Y 57 :: lget Y 58 :: lget Y 59 :: lget Y 60 :: lget Y 61 :: lget Y 62 :: lget Y 63 :: lget Y 64 :: lget Y 65 :: lget Y 66 :: lget Y 67 :: lget Y 68 :: lget Y 69 :: lget Y 70 :: lget Y 71 :: lget Y 72 :: lget Y 73 :: lget Y 74 :: lget Y 75 :: lget Y 76 :: lget Y 77 :: lget Y 78 :: lget Y 79 :: lget Y 80 :: lget Y 81 :: lget Y 82 :: lget Y 83 :: lget Y 84 :: lget Y 85 :: lget Y 86 :: lget Y 87 :: lget Y 88 :: lget Y 89 :: lget Y 90 :: lget Y 91 :: lget Y 92 :: lget Y 93 :: lget Y 94 :: lget Y 95 :: lget Y 96 :: lget Y 97 :: lget Y 98 :: lget Y 99 :: iv (tk.length : Nat) :: iv 0 :: lget Y 100 :: lget Y 101 :: lget Y 102 :: lget Y 103 :: lget Y 104 :: lget Y 105 :: lget Y 106 :: lget Y 107 :: lget Y 108 :: lget Y 109 :: lget Y 110 :: lget Y 111 :: lget Y 112 :: lget Y 113 :: lget Y 114 :: lget Y 115 :: lget Y 116 :: lget Y 117 :: lget Y 118 :: lget Y 119 :: lget Y 120 :: lget Y 121 :: lget Y 122 :: lget Y 123 :: lget Y 124 :: lget Y 125 :: lget Y 126 :: lget Y 127 :: lget Y 128 :: lget Y 129 :: lget Y 130 :: lget Y 131 :: lget Y 132 :: lget Y 133 :: lget Y 134 :: lget Y 135 :: lget Y 136 :: lget Y 137 :: lget Y 138 :: lget Y 139 :: lget Y 140 :: lget Y 141 :: lget Y 142 :: lget Y 143 :: lget Y 144 :: lget Y 145 :: lget Y 146 :: lget Y 147 :: lget Y 148 :: lget Y 149 :: lget Y 150 :: lget Y 151 :: lget Y 152 :: lget Y 153 :: lget Y 154 :: lget Y 155 :: lget Y 156 :: lget Y 157 :: lget Y 158 :: lget Y 159 :: lget Y 160 :: lget Y 161 :: lget Y 162 :: lget Y 163 :: lget Y 164 :: lget Y 165 :: lget Y 166 :: lget Y 167 :: lget Y 168 :: lget Y 169 :: lget Y 170 :: lget Y 171 :: lget Y 172 :: lget Y 173 :: lget Y 174 :: lget Y 175 :: lget Y 176 :: lget Y 177 :: lget Y 178 :: lget Y 179 :: lget Y 180 :: lget Y 181 :: lget Y 182 :: lget Y 183 :: lget Y 184 :: lget Y 185 :: lget Y 186 :: lget Y 187 :: lget Y 188 :: lget Y 189 :: lget Y 190 :: lget Y 191 :: lget Y 192 :: lget Y 193 :: lget Y 194 :: lget Y 195 :: lget Y 196 :: lget Y 197 :: lget Y 198 :: lget Y 199 :: lget Y 200 :: lget Y 201 :: lget Y 202 :: lget Y 203 :: lget Y 204 :: lget Y 205 :: lget Y 206 :: lget Y 207 :: lget Y 208 :: lget Y 209 :: lget Y 210 :: lget Y 211 :: lget Y 212 :: lget Y 213 :: lget Y 214 :: lget Y 215 :: lget Y 216 :: lget Y 217 :: lget Y 218 :: lget Y 219 :: lget Y 220 :: lget Y 221 :: lget Y 222 :: lget Y 223 :: lget Y 224 :: lget Y 225 :: lget Y 226 :: [])) ⟨[_,_,_,_,_,_,_,_,_,_,_,_,_,_,_,_,_,_,_,_,_,_,_,_,_,_,_,_,_,_,_,_,_,_,_,_,_,_,_,_,_,_,_,_,_,_,_,_,_,_,_,_,_,_,_,_,_,_,_,_,_,_,_,_,_,_,_,_,_,_,_,_,_,_,_,_,_,_,_,_,_,_,_,_,_,_,_,_,_,_,_,_,_,_,_,_,_,_,_,_,_,_,_,_,_,_,_,_,_,_,_,_,_,_,_,_,_,_,_,_,_,_,_,_,_,_,_,_,_,_,_,_,_,_,_,_,_,_,_,_,_,_,_,_,_,_,_,_,_,_,_,_,_,_,_,_,_,_,_,_,_,_,_,_,_,_,_,_,_,_,_,_,_,_,_,_,_,_,_,_,_,_,_,_,_,_,_,_,_,_,_,_,_,_,_,_,_,_,_,_,_,_,_,_,_,_,_,_,_,_,_,_,_,_,_,_,_,_,_,_,_,_,_,_,_,_,_], rfl⟩ ?_
 rintro T ⟨Y, rfl⟩
 refine wp_loop (fun m T M H' => ∃ (u : Nat) (Y : List AV), m = tk.length - u ∧ u ≤ tk.length ∧ H' = Hd ∧ M = [] ∧ T = (lget Y 0 :: yv :: .ptr RB 0 :: lget Y 1 :: .v (.bool false) :: .ptr XB 0 :: .ptr SB 0 :: lget Y 2 :: rr :: iv (ag : Nat) :: iv (i : Nat) :: lget Y 3 :: lget Y 4 :: .ptr TB 0 :: lget Y 5 :: lget Y 6 :: lget Y 7 :: lget Y 8 :: lget Y 9 :: lget Y 10 :: lget Y 11 :: lget Y 12 :: lget Y 13 :: lget Y 14 :: lget Y 15 :: lget Y 16 :: lget Y 17 :: lget Y 18 :: lget Y 19 :: lget Y 20 :: lget Y 21 :: lget Y 22 :: lget Y 23 :: lget Y 24 :: lget Y 25 :: lget Y 26 :: lget Y 27 :: lget Y 28 :: lget Y 29 :: lget Y 30 :: lget Y 31 :: lget Y 32 :: lget Y 33 :: lget Y 34 :: lget Y 35 :: lget Y 36 :: lget Y 37 :: lget Y 38 :: lget Y 39 :: lget Y 40 :: lget Y 41 :: lget Y 42 :: lget Y 43 :: lget Y 44 :: lget Y 45 :: yv :: iv (ks.length : Nat) :: iv (i : Nat) :: lget Y 46 :: lget Y 47 :: lget Y 48 :: lget Y 49 :: lget Y 50 :: lget Y 51 :: lget Y 52 :: lget Y 53 :: lget Y 54 :: lget Y 55 :: lget Y 56 :: lget Y 57 :: lget Y 58 :: lget Y 59 :: lget Y 60 :: lget Y 61 :: lget Y 62 :: lget Y 63 :: lget Y 64 :: lget Y 65 :: lget Y 66 :: lget Y 67 :: lget Y 68 :: lget Y 69 :: lget Y 70 :: lget Y 71 :: lget Y 72 :: lget Y 73 :: lget Y 74 :: lget Y 75 :: lget Y 76 :: lget Y 77 :: lget Y 78 :: lget Y 79 :: lget Y 80 :: lget Y 81 :: lget Y 82 :: lget Y 83 :: lget Y 84 :: lget Y 85 :: lget Y 86 :: lget Y 87 :: lget Y 88 :: lget Y 89 :: lget Y 90 :: lget Y 91 :: lget Y 92 :: lget Y 93 :: lget Y 94 :: lget Y 95 :: lget Y 96 :: lget Y 97 :: lget Y 98 :: lget Y 99 :: iv (tk.length : Nat) :: iv (u : Nat) :: lget Y 100 :: lget Y 101 :: lget Y 102 :: lget Y 103 :: lget Y 104 :: lget Y 105 :: lget Y 106 :: lget Y 107 :: lget Y 108 :: lget Y 109 :: lget Y 110 :: lget Y 111 :: lget Y 112 :: lget Y 113 :: lget Y 114 :: lget Y 115 :: lget Y 116 :: lget Y 117 :: lget Y 118 :: lget Y 119 :: lget Y 120 :: lget Y 121 :: lget Y 122 :: lget Y 123 :: lget Y 124 :: lget Y 125 :: lget Y 126 :: lget Y 127 :: lget Y 128 :: lget Y 129 :: lget Y 130 :: lget Y 131 :: lget Y 132 :: lget Y 133 :: lget Y 134 :: lget Y 135 :: lget Y 136 :: lget Y 137 :: lget Y 138 :: lget Y 139 :: lget Y 140 :: lget Y 141 :: lget Y 142 :: lget Y 143 :: lget Y 144 :: lget Y 145 :: lget Y 146 :: lget Y 147 :: lget Y 148 :: lget Y 149 :: lget Y 150 :: lget Y 151 :: lget Y 152 :: lget Y 153 :: lget Y 154 :: lget Y 155 :: lget Y 156 :: lget Y 157 :: lget Y 158 :: lget Y 159 :: lget Y 160 :: lget Y 161 :: lget Y 162 :: lget Y 163 :: lget Y 164 :: lget Y 165 :: lget Y 166 :: lget Y 167 :: lget Y 168 :: lget Y 169 :: lget Y 170 :: lget Y 171 :: lget Y 172 :: lget Y 173 :: lget Y 174 :: lget Y 175 :: lget Y 176 :: lget Y 177 :: lget Y 178 :: lget Y 179 :: lget Y 180 :: lget Y 181 :: lget Y 182 :: lget Y 183 :: lget Y 184 :: lget Y 185 :: lget Y 186 :: lget Y 187 :: lget Y 188 :: lget Y 189 :: lget Y 190 :: lget Y 191 :: lget Y 192 :: lget Y 193 :: lget Y 194 :: lget Y 195 :: lget Y 196 :: lget Y 197 :: lget Y 198 :: lget Y 199 :: lget Y 200 :: lget Y 201 :: lget Y 202 :: lget Y 203 :: lget Y 204 :: lget Y 205 :: lget Y 206 :: lget Y 207 :: lget Y 208 :: lget Y 209 :: lget Y 210 :: lget Y 211 :: lget Y 212 :: lget Y 213 :: lget Y 214 :: lget Y 215 :: lget Y 216 :: lget Y 217 :: lget Y 218 :: lget Y 219 :: lget Y 220 :: lget Y 221 :: lget Y 222 :: lget Y 223 :: lget Y 224 :: lget Y 225 :: lget Y 226 :: [])) tk.length
   ⟨0, [_,_,_,_,_,_,_,_,_,_,_,_,_,_,_,_,_,_,_,_,_,_,_,_,_,_,_,_,_,_,_,_,_,_,_,_,_,_,_,_,_,_,_,_,_,_,_,_,_,_,_,_,_,_,_,_,_,_,_,_,_,_,_,_,_,_,_,_,_,_,_,_,_,_,_,_,_,_,_,_,_,_,_,_,_,_,_,_,_,_,_,_,_,_,_,_,_,_,_,_,_,_,_,_,_,_,_,_,_,_,_,_,_,_,_,_,_,_,_,_,_,_,_,_,_,_,_,_,_,_,_,_,_,_,_,_,_,_,_,_,_,_,_,_,_,_,_,_,_,_,_,_,_,_,_,_,_,_,_,_,_,_,_,_,_,_,_,_,_,_,_,_,_,_,_,_,_,_,_,_,_,_,_,_,_,_,_,_,_,_,_,_,_,_,_,_,_,_,_,_,_,_,_,_,_,_,_,_,_,_,_,_,_,_,_,_,_,_,_,_,_,_,_,_,_,_,_], rfl, Nat.zero_le _, rfl, rfl, rfl⟩ ?_
 rintro m2 T M H' ⟨u, Y, hm2, hu, rfl, rfl, rfl⟩
 repeat (first | apply qR | apply qS)
 refine wops_cons (wop_cmp rfl rfl rfl rfl rfl (fun h => ?_) (fun h => ?_))
 rotate_left
 · have hkl := hI.kl
   clear hm2
   repeat (first | apply qN | refine qM rfl rfl ?_ | refine qF rfl ?_ | apply qR | apply qS | apply qE)
   refine wops_cons (o_indexR rfl rfl hyd.sl rfl (tks_get hkk) rfl fun pp hpp _ => ?_)
   refine wops_cons (o_loadR rfl rfl hpp rfl rfl fun v3 hv3 => ?_)
   have rd : H'.next < 2 ^ 59 := by omega
   refine wops_cons (o_build1R (p := k.cs) rfl rfl hv3 rfl rd ?_)
   refine WOps.mem (fun He => Keeps H' He ∧ He.next = H'.next + 1 ∧ He.get H'.next = some (.cells k.cs 28 0)) ⟨(Keeps.refl H').add _ rd, rfl, get_add_eq rd⟩ ?_
   rintro He ⟨ke, ne, ge⟩
   have xe := ke.nx
   refine wops_cons (o_appendRR (rows := tks kk) rfl rfl rfl rfl rfl (by rw [tks_length]; omega) (by omega) rfl ge rfl rfl (tks_len kk) (hGd.keep ke) fun r8 Hf nf glf ff hr8 hGf => ?_)
   have hro : ∀ b, rr.own = some b → H4.next ≤ b ∧ b ≠ SB ∧ b < H6.next := fun b hb => ⟨(hI.fg b hb).1, (hI.fg b hb).2, hI.hG.old b hb⟩
   have hrn : ∀ b cs e, H'.get b = some (.cells cs e 0) → rr.own ≠ some b := fun b cs e hb hb2 => by
     rcases hGd with ⟨rfl, _⟩ | ⟨c', _, _, rfl, hc⟩
     · cases hb2
     · cases hb2; rw [hc] at hb; cases hb
   have hrn3 : ∀ b cs, H'.get b = some (.cells cs 3 1) → rr.own ≠ some b := fun b cs hb hb2 => by
     rcases hGd with ⟨rfl, _⟩ | ⟨c', _, _, rfl, hc⟩
     · cases hb2
     · cases hb2; rw [hc] at hb; cases hb
   have ffd : ∀ b, b < H'.next → rr.own ≠ some b → Hf.get b = H'.get b := fun b hb hb2 => (ff b (by omega) hb2).trans (ke.get b hb)
   have gsf := (ffd SB (by omega) (hrn _ _ _ bsd.g)).trans bsd.g
   have btf : Bk Hf TB 26 [.slu a1 0 tk.length 1, .slu a2 0 gp.length 1] := ⟨hT39, (ffd TB (by omega) (hrn _ _ _ btd.g)).trans btd.g⟩
   have ha1 : a1 ≠ SB := fun e => by have h1 := hO1d.2.2; rw [e, bsd.g] at h1; simp at h1
   have ha2 : a2 ≠ SB := fun e => by have h1 := hO2d.2.2; rw [e, bsd.g] at h1; simp at h1
   have h1f : Own Hf a1 (nxT tk k) := ⟨by have := hO1d.1; omega, hO1d.2.1, (ffd a1 hO1d.1 (hrn3 _ _ hO1d.2.2)).trans hO1d.2.2⟩
   have h2f : Own Hf a2 (nxG r gp k) := ⟨by have := hO2d.1; omega, hO2d.2.1, (ffd a2 hO2d.1 (hrn3 _ _ hO2d.2.2)).trans hO2d.2.2⟩
   repeat (first | apply qN | refine qM rfl rfl ?_ | refine zqb rfl rfl rfl ‹_› ?_ | apply qR)
   refine wops_cons (o_storeA (n := 2) (vs := [.slu a1 0 tk.length 1, .slu a2 0 gp.length 1]) rfl rfl (by kernel_rfl) rfl rfl rfl rfl gsf (Nat.le_refl _) ?_)
   refine WOps.mem (fun Hg => Hg.next = Hf.next ∧ Hg.gl = Hf.gl ∧ Bk Hg SB 26 [.slu a1 0 tk.length 1, .slu a2 0 gp.length 1] ∧ ∀ b, b ≠ SB → Hg.get b = Hf.get b) ⟨rfl, rfl, ⟨hS39, get_set_eq hS39⟩, fun b hb => get_set_ne hS39 hb⟩ ?_
   rintro Hg ⟨ng, glg, bg, fg⟩
   have hg1 : Own Hg a1 (nxT tk k) := ⟨by have := h1f.1; omega, h1f.2.1, (fg a1 ha1).trans h1f.2.2⟩
   have hg2 : Own Hg a2 (nxG r gp k) := ⟨by have := h2f.1; omega, h2f.2.1, (fg a2 ha2).trans h2f.2.2⟩
   have kg1 := hg1.ky
   have kg2 := hg2.ky
   rw [hl1] at kg1
   rw [hl2] at kg2
   have hr8o : r8.own = some He.next := by rw [hr8]; rfl
   have hGg : GR Hg 28 3 r8 (tks (kk ++ [k])) := by
     have e : tks (kk ++ [k]) = tks kk ++ [k.cs] := by simp [tks]
     rw [e]
     exact hGf.frame (by omega) fun b hb => fg b (by rw [hr8o] at hb; cases hb; omega)
   repeat (first | apply qN | refine qM rfl rfl ?_ | refine zq4 rfl rfl rfl rfl (inc (by omega)) ?_ | apply qR)
   refine ⟨ks.length - (i + 1), by omega, i + 1, ag, .slu a1 0 tk.length 1, .slu a2 0 gp.length 1, r8, nxT tk k, nxG r gp k, kk ++ [k], [_,_,_,_,_,_,_,_,_,_,_,_,_,_,_,_,_,_,_,_,_,_,_,_,_,_,_,_,_,_,_,_,_,_,_,_,_,_,_,_,_,_,_,_,_,_,_,_,_,_,_,_,_,_,_,_,_,_,_,_,_,_,_,_,_,_,_,_,_,_,_,_,_,_,_,_,_,_,_,_,_,_,_,_,_,_,_,_,_,_,_,_,_,_,_,_,_,_,_,_,_,_,_,_,_,_,_,_,_,_,_,_,_,_,_,_,_,_,_,_,_,_,_,_,_,_,_,_,_,_,_,_,_,_,_,_,_,_,_,_,_,_,_,_,_,_,_,_,_,_,_,_,_,_,_,_,_,_,_,_,_,_,_,_,_,_,_,_,_,_,_,_,_,_,_,_,_,_,_,_,_,_,_,_,_,_,_,_,_,_,_,_,_,_,_,_,_,_,_,_,_,_,_,_,_,_,_,_,_,_,_,_,_,_,_,_,_,_,_,_,_,_,_,_,_,_,_,_,_,_,_], rfl, by omega, ⟨⟨by omega, glg.trans (glf.trans (ke.gl.trans (k6d.gl.trans k46.gl))), fun b hb => ?_⟩, by have := hI.nx; omega, by omega, bg, kg1, kg2, hGg, ?_, ?_, ?_, hsta2, by rw [List.length_append]; exact Nat.succ_le_succ hkl, by have := hI.al; omega, he1, he2, rpS_snoc hz0 hI.e3, fun q hq => ?_⟩, rfl, rfl⟩
   · have h1 : rr.own ≠ some b := fun e => by have := hro b e; omega
     exact (fg b (by omega)).trans ((ffd b (by omega) h1).trans ((k6d.get b (by omega)).trans (k46.get b hb)))
   · rintro b (hb | hb) <;> cases hb
     · exact ha1
     · exact ha2
   · intro b hb
     rw [hr8o] at hb; cases hb
     omega
   · intro b hb
     rw [hr8o] at hb; cases hb
     exact ⟨fun e => by cases e; have := hO1d.1; omega, fun e => by cases e; have := hO2d.1; omega⟩
   · rcases List.mem_append.1 hq with h | h
     · exact hI.kt q h
     · rw [List.mem_singleton] at h; subst h; exact hmk
 have hu' : u < tk.length := by have h : (u : Int) < (tk.length : Nat) := of_decide_eq_true h; omega
 clear h
 have he : ∀ a b : Int, binI .eql .i64 .i64 a b = some (.bool (decide (a = b))) := fun a b => by simp [binI]; rfl
 obtain ⟨w, hw⟩ := l_some hu'
 obtain ⟨w2, hw2⟩ := l_some (show u < (nxT tk k).length by omega)
 obtain ⟨x1, hx1⟩ := l_some (show u < gp.length by omega)
 obtain ⟨x2, hx2⟩ := l_some (show u < (nxG r gp k).length by omega)
 have hwr := hwb w (List.mem_of_getElem? hw)
 have hc1 : (u : Int) = k.a → w2 = w + 1 := fun e => by
   have e2 : u = j' := by omega
   subst e2
   rw [en1, List.getElem?_set, if_pos rfl, if_pos (by omega)] at hw2
   rw [hjz] at hw
   cases hw
   exact (Option.some.inj hw2).symm
 have hc2 : (u : Int) ≠ k.a → w2 = w ∧ x2 = x1 := fun e => by
   have e2 : ¬ j' = u := by omega
   rw [en1, List.getElem?_set, if_neg e2, hw] at hw2
   rw [en2, List.getElem?_set, if_neg e2, hx1] at hx2
   exact ⟨(Option.some.inj hw2).symm, (Option.some.inj hx2).symm⟩
 repeat (first | apply qN | refine qM rfl rfl ?_ | refine zqa rfl rfl rfl ?_ | refine zq6 rfl rfl ‹_› ?_ | refine qT rfl ?_ | apply qR | apply qS | apply qK | apply qB)
 refine wops_cons (o_indexI rfl rfl hpd.sl rfl hw fun pp hpp => ?_)
 repeat (first | apply qN | refine qM rfl rfl ?_ | refine zq6 rfl rfl ‹_› ?_ | apply qR | apply qS)
 refine wops_cons (o_indexR rfl rfl hyd.sl rfl (tks_get hkk) rfl fun pq hpq _ => ?_)
 refine wops_cons (o_fieldR rfl rfl hpq rfl (show k.cs[0]? = some (iv k.a) from rfl) fun qq hqq => ?_)
 refine wops_cons (o_load rfl rfl hqq ?_)
 refine wops_cons (wop_bin (op := .eql) (v := .bool (decide ((u : Int) = k.a))) rfl rfl rfl rfl (he _ _) ?_)
 by_cases hua : (u : Int) = k.a
 · rw [decide_eq_true hua]
   have e1 := hc1 hua
   subst e1
   repeat (first | apply qN | refine qM rfl rfl ?_ | refine qT rfl ?_ | apply qR)
   refine wops_cons (wop_bin (op := .add) (v := .int .i64 (w + 1)) rfl rfl rfl rfl (addI (by omega)) ?_)
   repeat (first | apply qN | refine qM rfl rfl ?_ | refine zqa rfl rfl rfl ?_ | refine zq6 rfl rfl ‹_› ?_ | apply qR | apply qS)
   refine wops_cons (o_indexI rfl rfl hOk1d.sl rfl hw2 fun pp hpp => ?_)
   refine wops_cons (o_load rfl rfl hpp ?_)
   repeat (first | refine qM rfl rfl ?_)
   refine wops_cons (wop_bin (op := .neq) (v := .bool false) rfl rfl rfl rfl (by simp [binI]) ?_)
   repeat (first | apply qN | refine qM rfl rfl ?_ | refine zq4 rfl rfl rfl rfl (inc (by omega)) ?_ | refine qF rfl ?_ | apply qR | apply qK)
   exact ⟨tk.length - (u + 1), by omega, u + 1, [_,_,_,_,_,_,_,_,_,_,_,_,_,_,_,_,_,_,_,_,_,_,_,_,_,_,_,_,_,_,_,_,_,_,_,_,_,_,_,_,_,_,_,_,_,_,_,_,_,_,_,_,_,_,_,_,_,_,_,_,_,_,_,_,_,_,_,_,_,_,_,_,_,_,_,_,_,_,_,_,_,_,_,_,_,_,_,_,_,_,_,_,_,_,_,_,_,_,_,_,_,_,_,_,_,_,_,_,_,_,_,_,_,_,_,_,_,_,_,_,_,_,_,_,_,_,_,_,_,_,_,_,_,_,_,_,_,_,_,_,_,_,_,_,_,_,_,_,_,_,_,_,_,_,_,_,_,_,_,_,_,_,_,_,_,_,_,_,_,_,_,_,_,_,_,_,_,_,_,_,_,_,_,_,_,_,_,_,_,_,_,_,_,_,_,_,_,_,_,_,_,_,_,_,_,_,_,_,_,_,_,_,_,_,_,_,_,_,_,_,_,_,_,_,_,_,_], rfl, by omega, rfl, rfl, rfl⟩
 · rw [decide_eq_false hua]
   obtain ⟨e1, e2⟩ := hc2 hua
   subst e1
   subst e2
   repeat (first | apply qN | refine qF rfl ?_ | apply qS)
   refine wp_drawK rfl ?_
   refine k_field rfl rfl rfl rfl ?_
   refine k_load rfl rfl rfl t1 (lkP btd (by omega) (by simp [beqs, AV.beq])) ?_
   refine k_move rfl rfl rfl ?_
   refine k_indexI rfl rfl rfl hOk2d.sl rfl hx2 hOk2d.lk fun pp hpp hpo => ?_
   refine k_load rfl rfl rfl hpp hpo ?_
   refine k_field rfl rfl rfl rfl ?_
   refine k_load rfl rfl rfl s1 (lkP bsd (by omega) sb8) ?_
   refine k_move rfl rfl rfl ?_
   refine k_indexI rfl rfl rfl hqd.sl rfl hx1 hqd.lk fun pq hpq hpo2 => ?_
   refine k_load rfl rfl rfl hpq hpo2 ?_
   refine k_bin (op := .neq) (v := .bool false) rfl rfl rfl rfl rfl (by simp [binI]) ?_
   repeat (first | refine qM rfl rfl ?_ | refine zqa rfl rfl rfl ?_ | refine zq6 rfl rfl ‹_› ?_ | refine k_nil ?_ | refine qF rfl ?_ | apply qR | apply qS | apply qK)
   refine wops_cons (o_indexI rfl rfl hOk1d.sl rfl hw2 fun p3 hp3 => ?_)
   refine wops_cons (o_load rfl rfl hp3 ?_)
   repeat (first | refine qM rfl rfl ?_)
   refine wops_cons (wop_bin (op := .neq) (v := .bool false) rfl rfl rfl rfl (by simp [binI]) ?_)
   repeat (first | apply qN | refine qM rfl rfl ?_ | refine zq4 rfl rfl rfl rfl (inc (by omega)) ?_ | refine qF rfl ?_ | apply qR | apply qK)
   exact ⟨tk.length - (u + 1), by omega, u + 1, [_,_,_,_,_,_,_,_,_,_,_,_,_,_,_,_,_,_,_,_,_,_,_,_,_,_,_,_,_,_,_,_,_,_,_,_,_,_,_,_,_,_,_,_,_,_,_,_,_,_,_,_,_,_,_,_,_,_,_,_,_,_,_,_,_,_,_,_,_,_,_,_,_,_,_,_,_,_,_,_,_,_,_,_,_,_,_,_,_,_,_,_,_,_,_,_,_,_,_,_,_,_,_,_,_,_,_,_,_,_,_,_,_,_,_,_,_,_,_,_,_,_,_,_,_,_,_,_,_,_,_,_,_,_,_,_,_,_,_,_,_,_,_,_,_,_,_,_,_,_,_,_,_,_,_,_,_,_,_,_,_,_,_,_,_,_,_,_,_,_,_,_,_,_,_,_,_,_,_,_,_,_,_,_,_,_,_,_,_,_,_,_,_,_,_,_,_,_,_,_,_,_,_,_,_,_,_,_,_,_,_,_,_,_,_,_,_,_,_,_,_,_,_,_,_,_,_], rfl, by omega, rfl, rfl, rfl⟩
end Go.Ev
