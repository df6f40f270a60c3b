/- Part of an evaluator of calls that is proved sound, and of what it gives about this program. No condition of its own. -/
import Derived.Test.YtanaplokhjgfmaaGreatDoorEvFour
import Derived.Shelf.Spec.SlicesInsertGrow
set_option linter.unusedVariables false
set_option linter.unusedSimpArgs false
set_option linter.unusedSectionVars false
namespace Go.Ev
open Go.Proofs Go.Shelf
section
variable {P : Program} {base : Nat} {ρ : Pl} {H : AH} {w : World}
theorem Post.ext {ρ' : Pl} {H' H'' : AH} {w' : World} (h : Post base ρ H w ρ' H' w') (hg : ∀ m, H''.get m = H'.get m) (hn : H''.next = H'.next) (hl : H''.gl = H'.gl) : Post base ρ H w ρ' H'' w' :=
 ⟨h.le, by rw [hn]; exact h.fresh, by rw [hn]; exact h.nx,
   ⟨fun b x hb => h.inv.blk b x (by rw [← hg]; exact hb), fun b b' x x' n c c' h1 h2 => h.inv.inj b b' x x' n c c' (by rw [← hg]; exact h1) (by rw [← hg]; exact h2), fun b x hb => by rw [hn]; exact h.inv.dom b x (by rw [← hg]; exact hb), by rw [hn]; exact h.inv.nx, h.inv.bs, by rw [hl]; exact h.inv.gl⟩,
   h.frame, fun b x n c hb => h.own b x n c (by rw [← hg]; exact hb), h.size, h.os, h.tape, h.output⟩
theorem AH.get_add (H : AH) (x : AB) (m : Nat) (hb : H.next < 2 ^ 59) : (H.add x).get m = if m = H.next then some x else H.get m := by
 unfold AH.add AH.get; exact Tr.get_set 60 _ _ _ _ (by omega)
end
end Go.Ev
namespace Go.Ev
def Good (P : Program) (g : Nat) (fn : Func) : Prop := P.funcs[g]? = some fn ∧ fn.body.isSome = true ∧ (fn.name == "runtime.NumGoroutine") = false
def FsT (P : Program) (k j : Nat) (F : Fs) : Prop := ∀ m fn, F.get m = some fn → Good P (k * m + j) fn
theorem FsT.lf {P : Program} {k j : Nat} : FsT P k j .lf := fun m fn h => by simp [Tr.get_lf] at h
theorem FsT.nd {P : Program} {k j : Nat} {o : Option Func} {l r : Fs} (ho : ∀ fn, o = some fn → Good P j fn) (hl : FsT P (k * 2) (k + j) l) (hr : FsT P (k * 2) (k * 2 + j) r) : FsT P k j (.nd o l r) := by
 intro m fn h
 rw [Tr.get_nd] at h
 cases m with
 | zero => have := ho fn h; simpa using this
 | succ n =>
   simp only at h
   rcases Nat.mod_two_eq_zero_or_one n with e | e
   · rw [e] at h
     have := hl _ _ h
     have e2 : k * 2 * (n / 2) + (k + j) = k * (n + 1) + j := by
       have : n = 2 * (n / 2) := by omega
       generalize n / 2 = q at this
       subst this
       rw [Nat.mul_add, Nat.mul_assoc]; omega
     rw [e2] at this; exact this
   · rw [e] at h
     have := hr _ _ h
     have e2 : k * 2 * (n / 2) + (k * 2 + j) = k * (n + 1) + j := by
       have : n = 2 * (n / 2) + 1 := by omega
       generalize n / 2 = q at this
       subst this
       rw [Nat.mul_add, Nat.mul_add, Nat.mul_assoc]; omega
     rw [e2] at this; exact this
theorem FsT.ok {P : Program} {F : Fs} (h : FsT P 1 0 F) : FsOk P F := fun g fn hg => by
 have := h g fn hg
 rw [Nat.one_mul, Nat.add_zero] at this
 exact this
theorem good_some {P : Program} {j : Nat} {f : Func} (h1 : P.funcs[j]? = some f) (h2 : f.body.isSome = true) (h3 : (f.name == "runtime.NumGoroutine") = false) : ∀ fn, some f = some fn → Good P j fn := fun fn e => by cases e; exact ⟨h1, h2, h3⟩
theorem good_none {P : Program} {j : Nat} : ∀ fn, (none : Option Func) = some fn → Good P j fn := fun fn e => by cases e
noncomputable def plansT (P : Program) (pl : Plans) (F : Fs) : Nat → Nat → Bool :=
 Tr.rec (motive := fun _ => Nat → Nat → Bool) (fun _ _ => true)
   (fun o _ _ l r k j => (match o with | some fn => (match fn.body with | some c => plansC P pl j c | none => true) | none => true) && l (k * 2) (k + j) && r (k * 2) (k * 2 + j)) F
theorem plansT_ok {P : Program} {pl : Plans} : ∀ {F : Fs} {k j : Nat}, plansT P pl F k j = true → ∀ m fn c, F.get m = some fn → fn.body = some c → plansC P pl (k * m + j) c = true
 | .lf, _, _, _, m, fn, c, hg, _ => by simp [Tr.get_lf] at hg
 | .nd o l r, k, j, h, m, fn, c, hg, hb => by
   have h' : ((match (generalizing := false) o with | some fn => (match (generalizing := false) fn.body with | some c => plansC P pl j c | none => true) | none => true) && plansT P pl l (k * 2) (k + j) && plansT P pl r (k * 2) (k * 2 + j)) = true := h
   simp only [Bool.and_eq_true] at h'
   obtain ⟨⟨h0, hl⟩, hr⟩ := h'
   rw [Tr.get_nd] at hg
   cases m with
   | zero =>
     simp only at hg
     subst hg
     simp only [hb] at h0
     simpa using h0
   | succ n =>
     simp only at hg
     rcases Nat.mod_two_eq_zero_or_one n with e | e
     · rw [e] at hg
       have := plansT_ok hl _ _ _ hg hb
       have e2 : k * 2 * (n / 2) + (k + j) = k * (n + 1) + j := by
         have : n = 2 * (n / 2) := by omega
         generalize n / 2 = q at this
         subst this
         rw [Nat.mul_add, Nat.mul_assoc]; omega
       rw [e2] at this; exact this
     · rw [e] at hg
       have := plansT_ok hr _ _ _ hg hb
       have e2 : k * 2 * (n / 2) + (k * 2 + j) = k * (n + 1) + j := by
         have : n = 2 * (n / 2) + 1 := by omega
         generalize n / 2 = q at this
         subst this
         rw [Nat.mul_add, Nat.mul_add, Nat.mul_assoc]; omega
       rw [e2] at this; exact this
theorem plansT_all {P : Program} {pl : Plans} {F : Fs} (h : plansT P pl F 1 0 = true) : ∀ g fn c, F.get g = some fn → fn.body = some c → plansC P pl g c = true := fun g fn c hg hb => by
 have := plansT_ok h g fn c hg hb
 simpa using this
theorem callOk_plain {P : Program} {g : FuncId} {args : List Value} {y : Value} {gl : Nat → Option (List Value)} (h : ∀ w : World, (∀ g vs, gl g = some vs → ∃ e fz, w.heap[g]? = some (.cells vs.toArray e fz)) → Calls P g args.toArray w fun e w' => e = .returned y ∧ RowKit.Below w.heap.size w w')
   {base : Nat} {ρ : Pl} {H : AH} {w : World} (hI : Inv base ρ H w) (hgl : ∀ g vs, gl g = some vs → H.gl g = some vs) : Calls P g args.toArray w fun e w' => ∃ ρ' v, e = .returned v ∧ CR ρ' (.v y) v ∧ Post base ρ H w ρ' H w' := by
 refine (h w fun g vs hg => (hI.gl g vs (hgl g vs hg)).2).mono ?_
 rintro e w' ⟨rfl, hb⟩
 refine ⟨ρ, y, rfl, .v _, ρ.le_refl, fun _ h => absurd rfl h, Nat.le_refl _, ?_, fun k hk _ => hb.block k hk, fun b x n c h1 h2 => .inr ⟨b, x, c, h1, h2⟩, hb.size, hb.os, hb.tape, hb.output⟩
 refine ⟨fun b x hx => ?_, hI.inj, hI.dom, hI.nx, Nat.le_trans hI.bs hb.size, fun g vs hg => ?_⟩
 · obtain ⟨n, c, h1, h2, h3⟩ := hI.blk b x hx
   exact ⟨n, c, h1, h2, h3.mono ρ.le_refl (hb.block n h3.lt)⟩
 · obtain ⟨h1, e, fz, h2⟩ := hI.gl g vs hg
   exact ⟨h1, e, fz, by rw [hb.block g (by have := hI.bs; omega)]; exact h2⟩
noncomputable def outP : Option (AV × AH) → Option Value
 | some (r, _) => r.plain
 | none => none
theorem evCall_plain {P : Program} {F : Fs} {O : CallF} {pl : Plans} (hF : FsOk P F) (hO : CallOk P O) (hmo : P.follows .mixedOrders = true) (hpf : plansT P pl F 1 0 = true) {n : Nat} {g : FuncId} {args : List Value} {gl : Nat → Option (List Value)} {y : Value}
   (h : outP (evCall P F O pl n g (args.map .v) ⟨0, .lf, gl⟩) = some y) (w : World) (hgl : ∀ g vs, gl g = some vs → ∃ e fz, w.heap[g]? = some (.cells vs.toArray e fz)) :
   Calls P g args.toArray w fun e w' => e = .returned y ∧ RowKit.Below w.heap.size w w' := by
 cases hev : evCall P F O pl n g (args.map .v) ⟨0, .lf, gl⟩ with
 | none => rw [hev] at h; cases h
 | some r =>
   obtain ⟨r, H'⟩ := r
   rw [hev] at h
   have hI : Inv w.heap.size (fun _ => none) ⟨0, .lf, gl⟩ w := {
     blk := fun b x hb => by simp [AH.get, Tr.get_lf] at hb
     inj := fun b _ x _ _ _ _ hb => by simp [AH.get, Tr.get_lf] at hb
     dom := fun b x hb => by simp [AH.get, Tr.get_lf] at hb
     nx := by simp
     bs := Nat.le_refl _
     gl := fun g vs hg => by
       obtain ⟨e, fz, h1⟩ := hgl g vs hg
       refine ⟨?_, e, fz, h1⟩
       rcases Nat.lt_or_ge g w.heap.size with h' | h'
       · exact h'
       · rw [Array.getElem?_eq_none h'] at h1; cases h1 }
   refine (ev_ok hF hO hmo (plansT_all hpf) n g _ _ _ _ hev (Nat.zero_le _) w.heap.size _ w args hI (fun _ _ _ => rfl) (CRs.vs _ _)).mono ?_
   rintro e w' ⟨ρ', v, rfl, hv, hp⟩
   refine ⟨by rw [CR.plain hv h], hp.os, hp.tape, hp.output, hp.size, fun k hk => hp.frame k hk (fun b x n c hb => by simp [AH.get, Tr.get_lf] at hb)⟩
end Go.Ev
namespace Go.Ev
noncomputable def AV.ren (σ : Nat → Nat) : AV → AV := fun a =>
 AV.rec (motive_1 := fun _ => AV) (motive_2 := fun _ => List AV) (fun x => .v x) (fun b off => .ptr (σ b) off) (fun b off len cap => .slc (σ b) off len cap) (fun b off len sz => .slu (σ b) off len sz) (fun b off len sz => .sle (σ b) off len sz)
   (fun f _ _ a b => .fn f a b) (fun _ cs => .agg cs) (fun _ cs => .tup cs) (fun b => .mp (σ b)) (fun b => .yl (σ b)) (fun t _ x => .ifc t x) [] (fun _ _ x l => x :: l) a
noncomputable def rens (σ : Nat → Nat) (l : List AV) : List AV := List.rec (motive := fun _ => List AV) [] (fun a _ ih => a.ren σ :: ih) l
theorem rens_eq (σ : Nat → Nat) : ∀ l : List AV, AV.rec_1 (motive_1 := fun _ => AV) (motive_2 := fun _ => List AV) (fun x => .v x) (fun b off => .ptr (σ b) off) (fun b off len cap => .slc (σ b) off len cap) (fun b off len sz => .slu (σ b) off len sz) (fun b off len sz => .sle (σ b) off len sz)
   (fun f _ _ a b => .fn f a b) (fun _ cs => .agg cs) (fun _ cs => .tup cs) (fun b => .mp (σ b)) (fun b => .yl (σ b)) (fun t _ x => .ifc t x) [] (fun _ _ x l => x :: l) l = rens σ l
 | [] => rfl
 | a :: l => congrArg (a.ren σ :: ·) (rens_eq σ l)
section
variable {σ : Nat → Nat}
theorem ren_v (x : Value) : (AV.v x).ren σ = .v x := rfl
theorem ren_ptr (b off : Nat) : (AV.ptr b off).ren σ = .ptr (σ b) off := rfl
theorem ren_slc (b off len cap : Nat) : (AV.slc b off len cap).ren σ = .slc (σ b) off len cap := rfl
theorem ren_slu (b off len sz : Nat) : (AV.slu b off len sz).ren σ = .slu (σ b) off len sz := rfl
theorem ren_sle (b off len sz : Nat) : (AV.sle b off len sz).ren σ = .sle (σ b) off len sz := rfl
theorem ren_fn (f : Fn) (a b : List AV) : (AV.fn f a b).ren σ = .fn f (rens σ a) (rens σ b) := by rw [← rens_eq, ← rens_eq]; rfl
theorem ren_agg (a : List AV) : (AV.agg a).ren σ = .agg (rens σ a) := by rw [← rens_eq]; rfl
theorem ren_tup (a : List AV) : (AV.tup a).ren σ = .tup (rens σ a) := by rw [← rens_eq]; rfl
theorem ren_mp (b : Nat) : (AV.mp b).ren σ = .mp (σ b) := rfl
theorem ren_yl (b : Nat) : (AV.yl b).ren σ = .yl (σ b) := rfl
theorem ren_ifc (t : TypeId) (x : AV) : (AV.ifc t x).ren σ = .ifc t (x.ren σ) := rfl
theorem rens_cons (a : AV) (l : List AV) : rens σ (a :: l) = a.ren σ :: rens σ l := rfl
end
mutual
theorem CR.toRen {σ : Nat → Nat} {ρ0 ρ1 : Pl} (hs : ∀ b x, ρ0 b = some x → ρ1 (σ b) = some x) : ∀ {a : AV} {x : Value}, CR ρ0 a x → CR ρ1 (a.ren σ) x
 | _, _, .v x => .v x
 | _, _, .ptr h => .ptr (hs _ _ h)
 | _, _, .slc h => .slc (hs _ _ h)
 | _, _, .slu h => .slu (hs _ _ h)
 | _, _, .sle h => .sle (hs _ _ h)
 | _, _, .fn h1 h2 => by rw [ren_fn]; exact .fn (CRs.toRen hs h1) (CRs.toRen hs h2)
 | _, _, .agg h => by rw [ren_agg]; exact .agg (CRs.toRen hs h)
 | _, _, .tup h => by rw [ren_tup]; exact .tup (CRs.toRen hs h)
 | _, _, .mp h => .mp (hs _ _ h)
 | _, _, .yl h => .yl (hs _ _ h)
 | _, _, .ifc h => .ifc (CR.toRen hs h)
theorem CRs.toRen {σ : Nat → Nat} {ρ0 ρ1 : Pl} (hs : ∀ b x, ρ0 b = some x → ρ1 (σ b) = some x) : ∀ {a : List AV} {x : List Value}, CRs ρ0 a x → CRs ρ1 (rens σ a) x
 | _, _, .nil => .nil
 | _, _, .cons h1 h2 => .cons (CR.toRen hs h1) (CRs.toRen hs h2)
end
mutual
theorem CR.ofRen {σ : Nat → Nat} {ρ : Pl} : ∀ {a : AV} {x : Value}, CR ρ (a.ren σ) x → CR (fun b => ρ (σ b)) a x
 | .v y, _, h => by rw [ren_v] at h; cases h; exact .v _
 | .ptr b off, _, h => by rw [ren_ptr] at h; cases h with | ptr h => exact .ptr h
 | .slc b off len cap, _, h => by rw [ren_slc] at h; cases h with | slc h => exact .slc h
 | .slu b off len sz, _, h => by rw [ren_slu] at h; cases h with | slu h => exact .slu h
 | .sle b off len sz, _, h => by rw [ren_sle] at h; cases h with | sle h => exact .sle h
 | .fn f fs gs, _, h => by rw [ren_fn] at h; cases h with | fn h1 h2 => exact .fn (CRs.ofRen h1) (CRs.ofRen h2)
 | .agg cs, _, h => by rw [ren_agg] at h; cases h with | agg h => exact .agg (CRs.ofRen h)
 | .tup cs, _, h => by rw [ren_tup] at h; cases h with | tup h => exact .tup (CRs.ofRen h)
 | .mp b, _, h => by rw [ren_mp] at h; cases h with | mp h => exact .mp h
 | .yl b, _, h => by rw [ren_yl] at h; cases h with | yl h => exact .yl h
 | .ifc t x, _, h => by rw [ren_ifc] at h; cases h with | ifc h => exact .ifc (CR.ofRen h)
theorem CRs.ofRen {σ : Nat → Nat} {ρ : Pl} : ∀ {a : List AV} {x : List Value}, CRs ρ (rens σ a) x → CRs (fun b => ρ (σ b)) a x
 | [], _, h => by cases h; exact .nil
 | a :: l, _, h => by rw [rens_cons] at h; cases h with | cons h1 h2 => exact .cons (CR.ofRen h1) (CRs.ofRen h2)
end
def bytesEq : List UInt8 → List UInt8 → Bool
 | [], [] => true
 | a :: l, b :: m => Nat.beq a.toNat b.toNat && bytesEq l m
 | _, _ => false
theorem bytesEq_eq : ∀ {l m : List UInt8}, bytesEq l m = true → l = m
 | [], [], _ => rfl
 | a :: l, b :: m, h => by
   simp only [bytesEq, Bool.and_eq_true] at h
   rw [bytesEq_eq h.2, UInt8.toNat_inj.1 (Nat.eq_of_beq_eq_true h.1)]
 | [], _ :: _, h => by simp [bytesEq] at h
 | _ :: _, [], h => by simp [bytesEq] at h
def intEq : Int → Int → Bool
 | .ofNat a, .ofNat b => Nat.beq a b
 | .negSucc a, .negSucc b => Nat.beq a b
 | _, _ => false
theorem intEq_eq : ∀ {a b : Int}, intEq a b = true → a = b
 | .ofNat a, .ofNat b, h => by rw [Nat.eq_of_beq_eq_true h]
 | .negSucc a, .negSucc b, h => by rw [Nat.eq_of_beq_eq_true h]
 | .ofNat _, .negSucc _, h => by simp [intEq] at h
 | .negSucc _, .ofNat _, h => by simp [intEq] at h
def kindEq : IntKind → IntKind → Bool
 | .i64, .i64 => true | .u64, .u64 => true | .u8, .u8 => true | .i32, .i32 => true | .u32, .u32 => true | .i8, .i8 => true | .i16, .i16 => true | .u16, .u16 => true
 | _, _ => false
theorem kindEq_eq {a b : IntKind} (h : kindEq a b = true) : a = b := by cases a <;> cases b <;> first | rfl | (simp [kindEq] at h)
def boolEq : Bool → Bool → Bool
 | true, true => true | false, false => true | _, _ => false
theorem boolEq_eq {a b : Bool} (h : boolEq a b = true) : a = b := by cases a <;> cases b <;> first | rfl | (simp [boolEq] at h)
def valEq : Value → Value → Bool
 | .bool a, .bool b => boolEq a b
 | .int k a, .int k' b => kindEq k k' && intEq a b
 | .string s, .string t => bytesEq s.data.toList t.data.toList
 | .slice none a b, .slice none a' b' => Nat.beq a a' && Nat.beq b b'
 | .pointer none, .pointer none => true
 | .pointer (some ⟨b, o, none⟩), .pointer (some ⟨b', o', none⟩) => Nat.beq b b' && Nat.beq o o'
 | .nilFunc, .nilFunc => true
 | .nilIface, .nilIface => true
 | .func (.func f) a b, .func (.func f') a' b' => Nat.beq f f' && Nat.beq a.size 0 && Nat.beq b.size 0 && Nat.beq a'.size 0 && Nat.beq b'.size 0
 | _, _ => false
theorem valEq_eq {a b : Value} (h : valEq a b = true) : a = b := by
 unfold valEq at h
 split at h
 · rw [boolEq_eq h]
 · simp only [Bool.and_eq_true] at h; rw [kindEq_eq h.1, intEq_eq h.2]
 · rename_i s t
   have := bytesEq_eq h
   obtain ⟨⟨s⟩⟩ := s
   obtain ⟨⟨t⟩⟩ := t
   simp only at this
   rw [this]
 · simp only [Bool.and_eq_true] at h; rw [Nat.eq_of_beq_eq_true h.1, Nat.eq_of_beq_eq_true h.2]
 · rfl
 · simp only [Bool.and_eq_true] at h; rw [Nat.eq_of_beq_eq_true h.1, Nat.eq_of_beq_eq_true h.2]
 · rfl
 · rfl
 · rename_i f a b f' a' b'
   simp only [Bool.and_eq_true] at h
   obtain ⟨⟨⟨⟨h1, h2⟩, h3⟩, h4⟩, h5⟩ := h
   rw [Nat.eq_of_beq_eq_true h1, Array.eq_empty_of_size_eq_zero (Nat.eq_of_beq_eq_true h2), Array.eq_empty_of_size_eq_zero (Nat.eq_of_beq_eq_true h3), Array.eq_empty_of_size_eq_zero (Nat.eq_of_beq_eq_true h4), Array.eq_empty_of_size_eq_zero (Nat.eq_of_beq_eq_true h5)]
 · cases h
noncomputable def avEq (σ : Nat → Nat) (p : AV) : AV → Bool :=
 AV.rec (motive_1 := fun _ => AV → Bool) (motive_2 := fun _ => List AV → Bool)
   (fun x a => match a with | .v y => valEq x y | _ => false)
   (fun b o a => match a with | .ptr b' o' => Nat.beq (σ b) b' && Nat.beq o o' | _ => false)
   (fun b o l c a => match a with | .slc b' o' l' c' => Nat.beq (σ b) b' && Nat.beq o o' && Nat.beq l l' && Nat.beq c c' | _ => false)
   (fun b o l c a => match a with | .slu b' o' l' c' => Nat.beq (σ b) b' && Nat.beq o o' && Nat.beq l l' && Nat.beq c c' | _ => false)
   (fun _ _ _ _ _ => false)
   (fun f _ _ p q a => match f, a with | .func f, .fn (.func f') fs gs => Nat.beq f f' && p fs && q gs | _, _ => false)
   (fun _ p a => match a with | .agg cs => p cs | _ => false)
   (fun _ _ _ => false) (fun _ _ => false) (fun _ _ => false) (fun _ _ _ _ => false)
   (fun l => match l with | [] => true | _ => false) (fun _ _ p q l => match l with | b :: m => p b && q m | [] => false) p
noncomputable def avsEq (σ : Nat → Nat) (ps : List AV) : List AV → Bool :=
 List.rec (motive := fun _ => List AV → Bool) (fun l => match l with | [] => true | _ => false) (fun p _ ih l => match l with | b :: m => avEq σ p b && ih m | [] => false) ps
theorem avsEq_rec (σ : Nat → Nat) : ∀ l : List AV, AV.rec_1 (motive_1 := fun _ => AV → Bool) (motive_2 := fun _ => List AV → Bool)
   (fun x a => match a with | .v y => valEq x y | _ => false)
   (fun b o a => match a with | .ptr b' o' => Nat.beq (σ b) b' && Nat.beq o o' | _ => false)
   (fun b o l c a => match a with | .slc b' o' l' c' => Nat.beq (σ b) b' && Nat.beq o o' && Nat.beq l l' && Nat.beq c c' | _ => false)
   (fun b o l c a => match a with | .slu b' o' l' c' => Nat.beq (σ b) b' && Nat.beq o o' && Nat.beq l l' && Nat.beq c c' | _ => false)
   (fun _ _ _ _ _ => false)
   (fun f _ _ p q a => match f, a with | .func f, .fn (.func f') fs gs => Nat.beq f f' && p fs && q gs | _, _ => false)
   (fun _ p a => match a with | .agg cs => p cs | _ => false)
   (fun _ _ _ => false) (fun _ _ => false) (fun _ _ => false) (fun _ _ _ _ => false)
   (fun l => match l with | [] => true | _ => false) (fun _ _ p q l => match l with | b :: m => p b && q m | [] => false) l = avsEq σ l
 | [] => rfl
 | a :: l => funext fun l' => by
   cases l' with
   | nil => rfl
   | cons b m => exact congrArg (fun f : List AV → Bool => avEq σ a b && f m) (avsEq_rec σ l)
theorem avEq_fn (σ : Nat → Nat) (f : FuncId) (fs gs : List AV) (a : AV) : avEq σ (.fn (.func f) fs gs) a = match a with | .fn (.func f') fs' gs' => Nat.beq f f' && avsEq σ fs fs' && avsEq σ gs gs' | _ => false := by
 rw [← avsEq_rec, ← avsEq_rec]
 cases a with
 | fn g _ _ => cases g <;> rfl
 | _ => rfl
theorem avEq_agg (σ : Nat → Nat) (cs : List AV) (a : AV) : avEq σ (.agg cs) a = match a with | .agg ds => avsEq σ cs ds | _ => false := by
 rw [← avsEq_rec]; cases a <;> rfl
mutual
theorem avEq_eq {σ : Nat → Nat} : ∀ {p a : AV}, avEq σ p a = true → a = p.ren σ
 | .v x, a, h => by
   cases a with
   | v y => rw [ren_v, valEq_eq (show valEq x y = true from h)]
   | _ => cases h
 | .ptr b o, a, h => by
   cases a with
   | ptr b' o' =>
     have h : (Nat.beq (σ b) b' && Nat.beq o o') = true := h
     simp only [Bool.and_eq_true] at h; rw [ren_ptr, Nat.eq_of_beq_eq_true h.1, Nat.eq_of_beq_eq_true h.2]
   | _ => cases h
 | .slc b o l c, a, h => by
   cases a with
   | slc b' o' l' c' =>
     have h : (Nat.beq (σ b) b' && Nat.beq o o' && Nat.beq l l' && Nat.beq c c') = true := h
     simp only [Bool.and_eq_true] at h
     rw [ren_slc, Nat.eq_of_beq_eq_true h.1.1.1, Nat.eq_of_beq_eq_true h.1.1.2, Nat.eq_of_beq_eq_true h.1.2, Nat.eq_of_beq_eq_true h.2]
   | _ => cases h
 | .sle b o l c, a, h => by cases h
 | .slu b o l c, a, h => by
   cases a with
   | slu b' o' l' c' =>
     have h : (Nat.beq (σ b) b' && Nat.beq o o' && Nat.beq l l' && Nat.beq c c') = true := h
     simp only [Bool.and_eq_true] at h
     rw [ren_slu, Nat.eq_of_beq_eq_true h.1.1.1, Nat.eq_of_beq_eq_true h.1.1.2, Nat.eq_of_beq_eq_true h.1.2, Nat.eq_of_beq_eq_true h.2]
   | _ => cases h
 | .agg cs, a, h => by
   rw [avEq_agg] at h
   cases a with
   | agg ds => rw [ren_agg, avsEq_eq (show avsEq σ cs ds = true from h)]
   | _ => cases h
 | .fn (.func f) fs gs, a, h => by
   rw [avEq_fn] at h
   cases a with
   | fn g fs' gs' =>
     cases g with
     | func f' =>
       have h : (Nat.beq f f' && avsEq σ fs fs' && avsEq σ gs gs') = true := h
       simp only [Bool.and_eq_true] at h
       rw [ren_fn, Nat.eq_of_beq_eq_true h.1.1, avsEq_eq h.1.2, avsEq_eq h.2]
     | _ => cases h
   | _ => cases h
 | .fn (.method _) _ _, a, h => by cases a <;> cases h
 | .fn (.methodOf _ _) _ _, a, h => by cases a <;> cases h
 | .fn (.via _ _ _ _) _ _, a, h => by cases a <;> cases h
 | .fn (.yield _) _ _, a, h => by cases a <;> cases h
 | .tup _, a, h => by cases h
 | .mp _, a, h => by cases h
 | .yl _, a, h => by cases h
 | .ifc _ _, a, h => by cases h
theorem avsEq_eq {σ : Nat → Nat} : ∀ {p a : List AV}, avsEq σ p a = true → a = rens σ p
 | [], [], _ => rfl
 | [], _ :: _, h => by cases h
 | a :: l, [], h => by cases h
 | a :: l, b :: m, h => by
   have h : (avEq σ a b && avsEq σ l m) = true := h
   simp only [Bool.and_eq_true] at h
   rw [rens_cons, avEq_eq h.1, avsEq_eq h.2]
end
end Go.Ev
namespace Go.Ev
noncomputable def putL (t : Tr AB) (l : List (Nat × AB)) : Tr AB := List.rec (motive := fun _ => Tr AB) t (fun p _ ih => Tr.set 60 ih p.1 (some p.2)) l
def look : List (Nat × AB) → Nat → Option AB
 | [], _ => none
 | p :: l, m => if m = p.1 then some p.2 else look l m
theorem get_putL (t : Tr AB) (m : Nat) : ∀ l : List (Nat × AB), (∀ p ∈ l, p.1 < 2 ^ 59) → (putL t l).get m = match look l m with | some x => some x | none => t.get m
 | [], _ => rfl
 | p :: l, h => by
   show (Tr.set 60 (putL t l) p.1 (some p.2)).get m = _
   rw [Tr.get_set 60 _ _ _ _ (by have := h p (by simp); omega), get_putL t m l fun q hq => h q (by simp [hq])]
   show (if m = p.1 then some p.2 else match look l m with | some x => some x | none => t.get m) = match (if m = p.1 then some p.2 else look l m) with | some x => some x | none => t.get m
   by_cases e : m = p.1
   · rw [if_pos e, if_pos e]
   · rw [if_neg e, if_neg e]
theorem look_mem {m : Nat} {x : AB} : ∀ {l : List (Nat × AB)}, look l m = some x → (m, x) ∈ l
 | p :: l, h => by
   unfold look at h
   split at h
   · rename_i e; cases h; subst e; simp
   · simp [look_mem h]
noncomputable def numb (l : List AB) : Nat → List (Nat × AB) := List.rec (motive := fun _ => Nat → List (Nat × AB)) (fun _ => []) (fun x _ ih n => (n, x) :: ih (n + 1)) l
theorem numb_cons (x : AB) (l : List AB) (n : Nat) : numb (x :: l) n = (n, x) :: numb l (n + 1) := rfl
theorem look_numb (m : Nat) : ∀ (l : List AB) (n : Nat), look (numb l n) m = if n ≤ m then l[m - n]? else none
 | [], n => by simp [numb, look]
 | x :: l, n => by
   rw [numb_cons]; unfold look
   rw [look_numb m l (n + 1)]
   by_cases e : m = n
   · subst e; simp
   · rw [if_neg e]
     by_cases h : n ≤ m
     · rw [if_pos (by omega), if_pos h]
       obtain ⟨d, hd⟩ : ∃ d, m - n = d + 1 := ⟨m - n - 1, by omega⟩
       rw [hd, show m - (n + 1) = d by omega]; simp
     · rw [if_neg (by omega), if_neg h]
theorem numb_lt : ∀ (l : List AB) (n : Nat), ∀ p ∈ numb l n, p.1 < n + l.length
 | [], _, p, h => by simp [numb] at h
 | x :: l, n, p, h => by
   rw [numb_cons] at h
   rcases List.mem_cons.1 h with rfl | h
   · simp
   · have := numb_lt l (n + 1) p h; simp; omega
structure Memo where
 g : FuncId
 k : Nat
 args : List AV
 paths : List (Nat × Nat × Nat)
 pre : List AB
 r : AV
 d : Nat
 post : List (Nat × AB)
noncomputable def Memo.H0 (m : Memo) (gl : Nat → Option (List Value)) : AH := ⟨m.k, putL .lf (numb m.pre 0), gl⟩
noncomputable def Memo.H1 (m : Memo) (gl : Nat → Option (List Value)) : AH := ⟨m.k + m.d, putL (putL .lf (numb m.pre 0)) m.post, gl⟩
def isCells : AB → Bool | .cells _ _ _ => true | _ => false
noncomputable def Memo.wf (m : Memo) : Bool := Nat.beq m.k m.pre.length && Nat.ble (m.k + m.d) (2 ^ 20) && m.pre.all isCells && (m.post.all fun p => isCells p.2 && Nat.ble m.k p.1 && Nat.blt p.1 (m.k + m.d)) && Nat.blt m.g (2 ^ 19)
structure Memo.Ok (P : Program) (gl : Nat → Option (List Value)) (m : Memo) : Prop where
 wf : m.wf = true
 ok : ∀ base ρ w vs, Inv base ρ (m.H0 gl) w → Free ρ m.k (m.k + m.d) → CRs ρ m.args vs →
   Calls P m.g vs.toArray w fun e w' => ∃ ρ' v, e = .returned v ∧ CR ρ' m.r v ∧ Post base ρ (m.H0 gl) w ρ' (m.H1 gl) w'
noncomputable def ngetD (l : List Nat) : Nat → Nat := List.rec (motive := fun _ => Nat → Nat) (fun _ => 0) (fun a _ ih t => Nat.casesOn t a ih) l
theorem ngetD_eq : ∀ (l : List Nat) (t : Nat), ngetD l t = l.getD t 0
 | [], t => by cases t <;> rfl
 | a :: l, t => by cases t with
   | zero => rfl
   | succ t => exact (ngetD_eq l t).trans (by simp)
noncomputable def sig (l : List Nat) (k nx b : Nat) : Nat := match Nat.blt b k with | true => ngetD l b | false => nx + (b - k)
noncomputable def renB (σ : Nat → Nat) : AB → AB | .cells cs e g => .cells (rens σ cs) e g | x => x
def blockNo : AV → Option Nat | .slc b _ _ _ => some b | .slu b _ _ _ => some b | .ptr b _ => some b | _ => none
noncomputable def subA (j : Nat) : AV → AV | .agg cs => lget cs j | a => a
noncomputable def stepA (H : AH) (args : List AV) (acc : List Nat) (p : Nat × Nat × Nat) : AV :=
 match p with
 | (s, i, j) => match s with
   | 0 => subA j (lget args i)
   | s + 1 => match H.get (ngetD acc s) with | some (.cells cs _ _) => lget cs i | _ => .v undef
noncomputable def resolve (H : AH) (args : List AV) (ps : List (Nat × Nat × Nat)) : List Nat → Option (List Nat) :=
 List.rec (motive := fun _ => List Nat → Option (List Nat)) (fun acc => some acc) (fun p _ ih acc => match blockNo (stepA H args acc p) with | some b => ih (acc ++ [b]) | none => none) ps
noncomputable def inN (a : Nat) (l : List Nat) : Bool := List.rec (motive := fun _ => Bool) false (fun b _ ih => match Nat.beq a b with | true => true | false => ih) l
noncomputable def nodupB (l : List Nat) : Bool := List.rec (motive := fun _ => Bool) true (fun a l ih => match inN a l with | true => false | false => ih) l
theorem inN_mem {a : Nat} : ∀ {l : List Nat}, inN a l = false → a ∉ l
 | [], _ => by simp
 | b :: l, h => by
   have h : (match Nat.beq a b with | true => true | false => inN a l) = false := h
   cases e : Nat.beq a b with
   | true => rw [e] at h; cases h
   | false =>
     rw [e] at h
     have := inN_mem h
     simp only [List.mem_cons, not_or]
     exact ⟨fun e' => (by subst e'; rw [Nat.beq_refl] at e; cases e), this⟩
theorem nodupB_nodup : ∀ {l : List Nat}, nodupB l = true → l.Nodup
 | [], _ => List.nodup_nil
 | a :: l, h => by
   have h : (match inN a l with | true => false | false => nodupB l) = true := h
   cases e : inN a l with
   | true => rw [e] at h; cases h
   | false => rw [e] at h; exact List.nodup_cons.2 ⟨inN_mem e, nodupB_nodup h⟩
noncomputable def blkEq (σ : Nat → Nat) (p : AB) (a : Option AB) : Bool :=
 match p, a with
 | .cells cs e g, some (.cells cs' e' g') => Nat.beq e e' && Nat.beq g g' && avsEq σ cs cs'
 | _, _ => false
theorem blkEq_eq {σ : Nat → Nat} {p : AB} {a : Option AB} (h : blkEq σ p a = true) : a = some (renB σ p) := by
 unfold blkEq at h
 split at h
 · simp only [Bool.and_eq_true] at h
   rw [Nat.eq_of_beq_eq_true h.1.1, Nat.eq_of_beq_eq_true h.1.2, avsEq_eq h.2]; rfl
 · cases h
noncomputable def preEq (σ : Nat → Nat) (H : AH) (pre : List AB) : List Nat → Bool :=
 List.rec (motive := fun _ => List Nat → Bool) (fun l => match l with | [] => true | _ => false) (fun x _ ih l => match l with | b :: l => blkEq σ x (H.get b) && ih l | [] => false) pre
theorem preEq_get {σ : Nat → Nat} {H : AH} : ∀ {pre : List AB} {l : List Nat}, preEq σ H pre l = true → l.length = pre.length ∧ ∀ i x, pre[i]? = some x → H.get (l.getD i 0) = some (renB σ x)
 | [], [], _ => ⟨rfl, fun i x h => by simp at h⟩
 | [], _ :: _, h => by cases h
 | _ :: _, [], h => by cases h
 | x :: pre, b :: l, h => by
   have h : (blkEq σ x (H.get b) && preEq σ H pre l) = true := h
   simp only [Bool.and_eq_true] at h
   obtain ⟨h1, h2⟩ := preEq_get h.2
   refine ⟨by simp [h1], fun i y hy => ?_⟩
   cases i with
   | zero => simp at hy; subst hy; simpa using blkEq_eq h.1
   | succ i => simpa using h2 i y (by simpa using hy)
noncomputable def shiftL (σ : Nat → Nat) (l : List (Nat × AB)) : List (Nat × AB) := List.rec (motive := fun _ => List (Nat × AB)) [] (fun p _ ih => (σ p.1, renB σ p.2) :: ih) l
noncomputable def memoUse (m : Memo) (σ : Nat → Nat) (H : AH) : AV × AH := (m.r.ren σ, ⟨H.next + m.d, putL H.tr (shiftL σ m.post), H.gl⟩)
noncomputable def memoAt (m : Memo) (args : List AV) (H : AH) (l : List Nat) : Option (AV × AH) :=
 match avsEq (sig l m.k H.next) m.args args && preEq (sig l m.k H.next) H m.pre l && nodupB l && Nat.ble (H.next + m.d) (2 ^ 59) with
 | true => some (memoUse m (sig l m.k H.next) H)
 | false => none
noncomputable def memoF (m : Memo) (args : List AV) (H : AH) : Option (AV × AH) :=
 match resolve H args m.paths [] with
 | some l => memoAt m args H l
 | none => none
theorem look_shiftL {σ : Nat → Nat} {b : Nat} : ∀ {l : List (Nat × AB)}, (∀ p ∈ l, σ p.1 = σ b → p.1 = b) → look (shiftL σ l) (σ b) = (look l b).map (renB σ)
 | [], _ => rfl
 | p :: l, h => by
   show look ((σ p.1, renB σ p.2) :: shiftL σ l) (σ b) = _
   unfold look
   rw [look_shiftL fun q hq => h q (by simp [hq])]
   by_cases e : b = p.1
   · subst e; simp
   · rw [if_neg e, if_neg fun e' => e (h p (by simp) e'.symm).symm]
theorem look_shift_none {σ : Nat → Nat} {c : Nat} : ∀ {l : List (Nat × AB)}, (∀ p ∈ l, σ p.1 ≠ c) → look (shiftL σ l) c = none
 | [], _ => rfl
 | p :: l, h => by
   show look ((σ p.1, renB σ p.2) :: shiftL σ l) c = _
   unfold look
   rw [if_neg fun e => h p (by simp) e.symm, look_shift_none fun q hq => h q (by simp [hq])]
section
variable {P : Program}
theorem BlkR.toRen {σ : Nat → Nat} {ρ0 ρ1 : Pl} (hs : ∀ b x, ρ0 b = some x → ρ1 (σ b) = some x) {n c : Nat} {w : World} {x : AB} (hx : isCells x = true) (h : BlkR ρ0 n c w x) : BlkR ρ1 n c w (renB σ x) := by
 cases x with
 | cells cs e g => obtain ⟨xs, ex, h1, h2⟩ := h; exact ⟨xs, ex, h1.toRen hs, h2⟩
 | _ => cases hx
theorem BlkR.ofRen {σ : Nat → Nat} {ρ : Pl} {n c : Nat} {w : World} {x : AB} (hx : isCells x = true) (h : BlkR ρ n c w (renB σ x)) : BlkR (fun b => ρ (σ b)) n c w x := by
 cases x with
 | cells cs e g => obtain ⟨xs, ex, h1, h2⟩ := h; exact ⟨xs, ex, h1.ofRen, h2⟩
 | _ => cases hx
theorem memoF_ok {gl : Nat → Option (List Value)} {m : Memo} (hm : m.Ok P gl) {args : List AV} {H : AH} {r : AV} {H' : AH} (h : memoF m args H = some (r, H')) (hgl : ∀ g vs, gl g = some vs → H.gl g = some vs)
   {base : Nat} {ρ : Pl} {w : World} {vs : List Value} (hI : Inv base ρ H w) (hf : Free ρ H.next H'.next) (hv : CRs ρ args vs) :
   Calls P m.g vs.toArray w fun e w' => ∃ ρ' v, e = .returned v ∧ CR ρ' r v ∧ Post base ρ H w ρ' H' w' := by
 unfold memoF at h
 split at h
 case h_2 => cases h
 rename_i l _
 unfold memoAt at h
 split at h
 case h_2 => cases h
 rename_i hc
 simp only [Bool.and_eq_true] at hc
 obtain ⟨⟨⟨ha, hp⟩, hn⟩, h39⟩ := hc
 have h39 := Nat.le_of_ble_eq_true h39
 generalize hσ : sig l m.k H.next = σ at h ha hp
 cases h
 obtain ⟨hwf, hok⟩ := hm
 simp only [Memo.wf, Bool.and_eq_true, List.all_eq_true] at hwf
 obtain ⟨⟨⟨⟨hk, hkd⟩, hpc⟩, hpo⟩, _⟩ := hwf
 have hk := Nat.eq_of_beq_eq_true hk
 have hkd := Nat.le_of_ble_eq_true hkd
 obtain ⟨hlen, hget⟩ := preEq_get hp
 have hnd := nodupB_nodup hn
 have ha := avsEq_eq ha
 have s1 : ∀ b, b < m.k → σ b = l.getD b 0 := fun b hb => by
   rw [← hσ]; unfold sig
   have : Nat.blt b m.k = true := by rw [Nat.blt_eq]; exact hb
   rw [this]; exact ngetD_eq _ _
 have s2 : ∀ b, m.k ≤ b → σ b = H.next + (b - m.k) := fun b hb => by
   rw [← hσ]; unfold sig
   have : Nat.blt b m.k = false := by
     cases e : Nat.blt b m.k with
     | false => rfl
     | true => rw [Nat.blt_eq] at e; omega
   rw [this]
 have hpre : ∀ b, b < m.k → ∃ x, m.pre[b]? = some x ∧ H.get (σ b) = some (renB σ x) ∧ isCells x = true := fun b hb => by
   have hb' : b < m.pre.length := by omega
   refine ⟨m.pre[b], by simp [hb'], ?_, hpc _ (by simp)⟩
   rw [s1 b hb]; exact hget b _ (by simp [hb'])
 have slt : ∀ b, b < m.k → σ b < H.next := fun b hb => by
   obtain ⟨x, _, h2, _⟩ := hpre b hb; exact hI.dom _ _ h2
 have sinj : ∀ a b, σ a = σ b → a = b := fun a b e => by
   rcases Nat.lt_or_ge a m.k with ha' | ha' <;> rcases Nat.lt_or_ge b m.k with hb' | hb'
   · rw [s1 a ha', s1 b hb'] at e
     have ea : l.getD a 0 = l[a]'(by omega) := by simp [List.getD, List.getElem?_eq_getElem (show a < l.length by omega)]
     have eb : l.getD b 0 = l[b]'(by omega) := by simp [List.getD, List.getElem?_eq_getElem (show b < l.length by omega)]
     rw [ea, eb] at e
     exact (List.getElem_inj hnd).1 e
   · have := slt a ha'; rw [s2 b hb'] at e; omega
   · have := slt b hb'; rw [s2 a ha'] at e; omega
   · rw [s2 a ha', s2 b hb'] at e; omega
 have g0 : ∀ b, (m.H0 gl).get b = m.pre[b]? := fun b => by
   show (putL .lf (numb m.pre 0)).get b = _
   rw [get_putL _ _ _ fun p hp => by have := numb_lt _ _ p hp; omega, look_numb]
   simp only [Nat.zero_le, if_true, Nat.sub_zero, Tr.get_lf]
   cases m.pre[b]? <;> rfl
 have g1 : ∀ b, (m.H1 gl).get b = match look m.post b with | some x => some x | none => m.pre[b]? := fun b => by
   show (putL (putL .lf (numb m.pre 0)) m.post).get b = _
   rw [get_putL _ _ _ fun p hp => by
     have := (hpo p hp).2; rw [Nat.blt_eq] at this; omega]
   cases look m.post b with
   | some x => rfl
   | none => exact g0 b
 have pk : ∀ b x, look m.post b = some x → isCells x = true ∧ m.k ≤ b ∧ b < m.k + m.d := fun b x hb => by
   have := hpo _ (look_mem hb)
   exact ⟨this.1.1, Nat.le_of_ble_eq_true this.1.2, by have := this.2; rw [Nat.blt_eq] at this; exact this⟩
 have gH : ∀ c, (memoUse m σ H).2.get c = match look (shiftL σ m.post) c with | some x => some x | none => H.get c := fun c => by
   refine get_putL _ _ _ fun p hp => ?_
   have : ∃ q ∈ m.post, σ q.1 = p.1 := by
     clear hpo pk g1
     have aux : ∀ l : List (Nat × AB), p ∈ shiftL σ l → ∃ q ∈ l, σ q.1 = p.1 := by
       intro l
       induction l with
       | nil => intro hp; cases hp
       | cons q l ih =>
         intro hp
         rcases List.mem_cons.1 (show p ∈ (σ q.1, renB σ q.2) :: shiftL σ l from hp) with rfl | hp
         · exact ⟨q, by simp, rfl⟩
         · obtain ⟨q', h1, h2⟩ := ih hp; exact ⟨q', by simp [h1], h2⟩
     exact aux _ hp
   obtain ⟨q, hq, e⟩ := this
   have := hpo q hq
   have h1 := Nat.le_of_ble_eq_true this.1.2
   have h2 := this.2; rw [Nat.blt_eq] at h2
   rw [← e, s2 _ h1]; omega
 -- old blocks stay, new ones are the post's
 have gold : ∀ c, c < H.next → (memoUse m σ H).2.get c = H.get c := fun c hc => by
   rw [gH, look_shift_none]
   intro p hp e
   have := hpo p hp
   rw [s2 _ (Nat.le_of_ble_eq_true this.1.2)] at e; omega
 have gnew : ∀ b, m.k ≤ b → (memoUse m σ H).2.get (σ b) = (look m.post b).map (renB σ) := fun b hb => by
   rw [gH, look_shiftL fun p _ e => sinj _ _ e]
   cases look m.post b with
   | some x => rfl
   | none =>
     cases e : H.get (σ b) with
     | none => rfl
     | some y => have := hI.dom _ _ e; rw [s2 b hb] at this; omega
 -- the world of the memo
 have hfr : ∀ b, m.k ≤ b → b < m.k + m.d → ρ (σ b) = none := fun b h1 h2 => hf _ (by rw [s2 b h1]; omega) (by rw [s2 b h1]; show _ < H.next + m.d; omega)
 have hI0 : Inv base (fun b => ρ (σ b)) (m.H0 gl) w := {
   blk := fun b x hb => by
     rw [g0] at hb
     have hbk : b < m.k := by have := (List.getElem?_eq_some_iff.1 hb).1; omega
     obtain ⟨y, h1, h2, h3⟩ := hpre b hbk
     rw [h1] at hb; cases hb
     obtain ⟨n, c, k1, k2, k3⟩ := hI.blk _ _ h2
     exact ⟨n, c, k1, k2, k3.ofRen h3⟩
   inj := fun b b' x x' n c c' hb hb' h1 h2 => by
     rw [g0] at hb hb'
     have hbk : b < m.k := by have := (List.getElem?_eq_some_iff.1 hb).1; omega
     have hbk' : b' < m.k := by have := (List.getElem?_eq_some_iff.1 hb').1; omega
     obtain ⟨y, _, k2, _⟩ := hpre b hbk
     obtain ⟨y', _, k2', _⟩ := hpre b' hbk'
     exact sinj _ _ (hI.inj _ _ _ _ _ _ _ k2 k2' h1 h2)
   dom := fun b x hb => by
     rw [g0] at hb
     have := (List.getElem?_eq_some_iff.1 hb).1
     show b < m.k; omega
   nx := by show m.k ≤ 2 ^ 59; omega
   bs := hI.bs
   gl := fun g vs hg => hI.gl g vs (hgl g vs hg) }
 refine (hok base _ w vs hI0 (fun b h1 h2 => hfr b h1 h2) (by rw [ha] at hv; exact hv.ofRen)).mono ?_
 rintro e w' ⟨ρ0', v, rfl, hrv, hpost⟩
 let ρ' : Pl := fun c => if H.next ≤ c ∧ c < H.next + m.d then ρ0' (c - H.next + m.k) else ρ c
 have hρ : ∀ b, ρ' (σ b) = ρ0' b := fun b => by
   rcases Nat.lt_or_ge b m.k with hb | hb
   · have := slt b hb
     show (if _ then _ else _) = _
     rw [if_neg (by omega)]
     by_cases e : ρ0' b = ρ (σ b)
     · exact e.symm
     · have := (hpost.fresh b e).1
       have : m.k ≤ b := this
       omega
   · show (if _ then _ else _) = _
     rw [s2 b hb]
     by_cases h2 : b < m.k + m.d
     · rw [if_pos (by omega), show H.next + (b - m.k) - H.next + m.k = b by omega]
     · rw [if_neg (by omega), ← s2 b hb]
       by_cases e : ρ0' b = ρ (σ b)
       · exact e.symm
       · have := (hpost.fresh b e).2
         have : b < m.k + m.d := this
         omega
 have hle : ρ.le ρ' := fun c x hx => by
   show (if _ then _ else _) = _
   by_cases hc : H.next ≤ c ∧ c < H.next + m.d
   · have := hf c hc.1 hc.2; rw [this] at hx; cases hx
   · rw [if_neg hc]; exact hx
 have hρold : ∀ c, c < H.next → ρ' c = ρ c := fun c hc => if_neg (by omega)
 -- a new block of the memory has a number of its own
 have newN : ∀ b x n c, look m.post b = some x → ρ0' b = some (n, c) → w.heap.size ≤ n := fun b x n c hb hr => by
   obtain ⟨_, kb, _⟩ := pk b x hb
   have hb1 : (m.H1 gl).get b = some x := by rw [g1, hb]
   rcases hpost.own b x n c hb1 hr with h' | ⟨b0, x0, c0, h1, h2⟩
   · exact h'
   · rw [g0] at h1
     have hlt := (List.getElem?_eq_some_iff.1 h1).1
     have h1' : (m.H1 gl).get b0 = some x0 := by
       rw [g1]
       cases e : look m.post b0 with
       | none => exact h1
       | some y => have := (pk b0 y e).2.1; omega
     have h2' : ρ0' b0 = some (n, c0) := hpost.le _ _ h2
     have := hpost.inv.inj _ _ _ _ _ _ _ hb1 h1' hr h2'
     omega
 -- a block that the memo does not know is untouched
 have keep : ∀ c x n d, H.get c = some x → ρ c = some (n, d) → BlkR ρ n d w x → w'.heap[n]? = w.heap[n]? ∨ ∃ b, b < m.k ∧ σ b = c := fun c x n d hc hr hB => by
   by_cases e : ∃ b, b < m.k ∧ σ b = c
   · exact .inr e
   · refine .inl (hpost.frame n hB.lt ?_)
     intro b y n' c' hb hr' e'
     rw [g0] at hb
     have hbk : b < m.k := by have := (List.getElem?_eq_some_iff.1 hb).1; omega
     obtain ⟨z, _, k2, _⟩ := hpre b hbk
     subst e'
     exact e ⟨b, hbk, hI.inj _ _ _ _ _ _ _ k2 hc hr' hr⟩
 have cases' : ∀ c x, (memoUse m σ H).2.get c = some x → (c < H.next ∧ H.get c = some x) ∨ ∃ b y, m.k ≤ b ∧ c = σ b ∧ look m.post b = some y ∧ x = renB σ y := fun c x hc => by
   rcases Nat.lt_or_ge c H.next with hlt | hge
   · rw [gold c hlt] at hc; exact .inl ⟨hlt, hc⟩
   · have ec : c = σ (c - H.next + m.k) := by rw [s2 _ (by omega)]; omega
     rw [ec, gnew _ (by omega)] at hc
     cases e : look m.post (c - H.next + m.k) with
     | none => rw [e] at hc; cases hc
     | some y => rw [e] at hc; cases hc; exact .inr ⟨_, y, by omega, ec, e, rfl⟩
 refine ⟨ρ', v, rfl, hrv.toRen fun b x hb => by rw [hρ]; exact hb, hle, ?_, Nat.le_add_right _ _, ?_, ?_, ?_, hpost.size, hpost.os, hpost.tape, hpost.output⟩
 · intro c hc
   by_cases h' : H.next ≤ c ∧ c < H.next + m.d
   · exact h'
   · exact absurd (if_neg h') hc
 · refine ⟨?_, ?_, ?_, h39, Nat.le_trans hI.bs hpost.size, ?_⟩
   · intro c x hc
     rcases cases' c x hc with ⟨hlt, hc⟩ | ⟨b, y, hb, rfl, hy, rfl⟩
     · obtain ⟨n, d, k1, k2, k3⟩ := hI.blk _ _ hc
       refine ⟨n, d, hle _ _ k1, k2, ?_⟩
       rcases keep c x n d hc k1 k3 with e | ⟨b, hb, rfl⟩
       · exact k3.mono hle e
       · obtain ⟨y, h1, h2, h3⟩ := hpre b hb
         rw [h2] at hc; cases hc
         have h1' : (m.H1 gl).get b = some y := by
           rw [g1]
           cases e : look m.post b with
           | none => exact h1
           | some z => have := (pk b z e).2.1; omega
         obtain ⟨n', d', q1, q2, q3⟩ := hpost.inv.blk _ _ h1'
         have : ρ0' b = some (n, d) := hpost.le _ _ k1
         rw [this] at q1; cases q1
         exact q3.toRen (fun b x hb => by rw [hρ]; exact hb) h3
     · have hb1 : (m.H1 gl).get b = some y := by rw [g1, hy]
       obtain ⟨n, d, q1, q2, q3⟩ := hpost.inv.blk _ _ hb1
       exact ⟨n, d, by rw [hρ]; exact q1, q2, q3.toRen (fun b x hb => by rw [hρ]; exact hb) (pk b y hy).1⟩
   · intro c c' x x' n d d' hc hc' h1 h2
     rcases cases' c x hc with ⟨hlt, hc⟩ | ⟨b, y, hb, rfl, hy, rfl⟩ <;> rcases cases' c' x' hc' with ⟨hlt', hc'⟩ | ⟨b', y', hb', rfl, hy', rfl⟩
     · rw [hρold _ hlt] at h1; rw [hρold _ hlt'] at h2
       exact hI.inj _ _ _ _ _ _ _ hc hc' h1 h2
     · rw [hρold _ hlt] at h1; rw [hρ] at h2
       have := newN _ _ _ _ hy' h2
       obtain ⟨n', d2, k1, k2, k3⟩ := hI.blk _ _ hc
       rw [h1] at k1; cases k1
       have := k3.lt; omega
     · rw [hρold _ hlt'] at h2; rw [hρ] at h1
       have := newN _ _ _ _ hy h1
       obtain ⟨n', d2, k1, k2, k3⟩ := hI.blk _ _ hc'
       rw [h2] at k1; cases k1
       have := k3.lt; omega
     · rw [hρ] at h1 h2
       have hb1 : (m.H1 gl).get b = some y := by rw [g1, hy]
       have hb2 : (m.H1 gl).get b' = some y' := by rw [g1, hy']
       rw [hpost.inv.inj _ _ _ _ _ _ _ hb1 hb2 h1 h2]
   · intro c x hc
     show c < H.next + m.d
     rcases cases' c x hc with ⟨hlt, _⟩ | ⟨b, y, hb, rfl, hy, rfl⟩
     · omega
     · rw [s2 b hb]; have := (pk b y hy).2.2; omega
   · intro g vs hg
     obtain ⟨h1, e, fz, h2⟩ := hI.gl g vs hg
     refine ⟨h1, e, fz, ?_⟩
     rw [hpost.frame g (by have := hI.bs; omega)]
     · exact h2
     · intro b y n c hb hr e'
       obtain ⟨n', c', k1, k2, _⟩ := hI0.blk _ _ hb
       rw [hr] at k1; cases k1; omega
 · intro k hk hn
   refine hpost.frame k hk ?_
   intro b y n c hb hr
   rw [g0] at hb
   have hbk : b < m.k := by have := (List.getElem?_eq_some_iff.1 hb).1; omega
   obtain ⟨z, _, k2, _⟩ := hpre b hbk
   exact hn _ _ _ _ k2 hr
 · intro c x n d hc h1
   rcases cases' c x hc with ⟨hlt, hc⟩ | ⟨b, y, hb, rfl, hy, rfl⟩
   · rw [hρold _ hlt] at h1; exact .inr ⟨c, x, d, hc, h1⟩
   · rw [hρ] at h1; exact .inl (newN _ _ _ _ hy h1)
end
end Go.Ev
namespace Go.Ev
noncomputable def getsA (H : AH) (l : List (Nat × AB)) : List (Option AB) := List.rec (motive := fun _ => List (Option AB)) [] (fun p _ ih => H.get p.1 :: ih) l
noncomputable def somes (l : List (Nat × AB)) : List (Option AB) := List.rec (motive := fun _ => List (Option AB)) [] (fun p _ ih => some p.2 :: ih) l
theorem getsA_mem {H : AH} {p : Nat × AB} : ∀ {l : List (Nat × AB)}, getsA H l = somes l → p ∈ l → H.get p.1 = some p.2
 | q :: l, h, hp => by
   have h : H.get q.1 :: getsA H l = some q.2 :: somes l := h
   injection h with h1 h2
   rcases List.mem_cons.1 hp with rfl | hp
   · exact h1
   · exact getsA_mem h2 hp
noncomputable def viewE (l1 l2 : List (Nat × AB)) : Option (AV × AH) → Option (AV × Nat × List (Option AB) × List (Option AB))
 | some (r, H) => some (r, H.next, getsA H l1, getsA H l2)
 | none => none
section
variable {P : Program} {F : Fs} {O : CallF} {pl : Plans}
theorem memo_ok (hF : FsOk P F) (hO : CallOk P O) (hmo : P.follows .mixedOrders = true) (hpf : plansT P pl F 1 0 = true) (n : Nat) {gl : Nat → Option (List Value)} {m : Memo} (hwf : m.wf = true)
   (h : viewE (numb m.pre 0) m.post (evCall P F O pl n m.g m.args (m.H0 gl)) = some (m.r, m.k + m.d, somes (numb m.pre 0), somes m.post)) : m.Ok P gl := by
 refine ⟨hwf, fun base ρ w vs hI hf hv => ?_⟩
 simp only [Memo.wf, Bool.and_eq_true, List.all_eq_true] at hwf
 obtain ⟨⟨⟨⟨hk, hkd⟩, hpc⟩, hpo⟩, _⟩ := hwf
 have hk := Nat.eq_of_beq_eq_true hk
 have hkd := Nat.le_of_ble_eq_true hkd
 cases hev : evCall P F O pl n m.g m.args (m.H0 gl) with
 | none => rw [hev] at h; cases h
 | some q =>
   obtain ⟨r, H'⟩ := q
   rw [hev] at h
   simp only [viewE, Option.some.injEq, Prod.mk.injEq] at h
   obtain ⟨rfl, hn, h1, h2⟩ := h
   have g0 : ∀ b, (m.H0 gl).get b = m.pre[b]? := fun b => by
     show (putL .lf (numb m.pre 0)).get b = _
     rw [get_putL _ _ _ fun p hp => by have := numb_lt _ _ p hp; omega, look_numb]
     simp only [Nat.zero_le, if_true, Nat.sub_zero, Tr.get_lf]
     cases m.pre[b]? <;> rfl
   have hsub : ∀ b x, (m.H1 gl).get b = some x → H'.get b = some x := fun b x hb => by
     have hb : (putL (putL .lf (numb m.pre 0)) m.post).get b = some x := hb
     rw [get_putL _ _ _ fun p hp => by have := (hpo p hp).2; rw [Nat.blt_eq] at this; omega] at hb
     cases e : look m.post b with
     | some y =>
       rw [e] at hb; cases hb
       exact getsA_mem (p := (b, x)) h2 (look_mem e)
     | none =>
       rw [e] at hb
       have hb : (putL .lf (numb m.pre 0)).get b = some x := hb
       rw [get_putL _ _ _ fun p hp => by have := numb_lt _ _ p hp; omega] at hb
       cases e' : look (numb m.pre 0) b with
       | some y =>
         rw [e'] at hb; cases hb
         exact getsA_mem (p := (b, x)) h1 (look_mem e')
       | none => rw [e'] at hb; cases hb
   refine (ev_ok hF hO hmo (plansT_all hpf) n m.g _ _ _ _ hev (by rw [hn]; exact Nat.le_add_right _ _) base ρ w vs hI (by rw [hn]; exact hf) hv).mono ?_
   rintro e w' ⟨ρ', v, rfl, hr, hp⟩
   refine ⟨ρ', v, rfl, hr, hp.le, fun b hb => ?_, Nat.le_add_right _ _, ⟨fun b x hb => hp.inv.blk b x (hsub b x hb), fun b b' x x' n c c' hb hb' => hp.inv.inj _ _ _ _ _ _ _ (hsub _ _ hb) (hsub _ _ hb'), fun b x hb => ?_, ?_, hp.inv.bs, fun g vs hg => ?_⟩, hp.frame, fun b x n c hb => hp.own b x n c (hsub b x hb), hp.size, hp.os, hp.tape, hp.output⟩
   · have := hp.fresh b hb; rw [hn] at this; exact this
   · have := hp.inv.dom b x (hsub b x hb); rw [hn] at this; exact this
   · have := hp.inv.nx; rw [hn] at this; exact this
   · obtain ⟨k1, e, fz, k2⟩ := hI.gl g vs hg
     refine ⟨k1, e, fz, ?_⟩
     rw [hp.frame g (by have := hI.bs; omega)]
     · exact k2
     · intro b y n c hb hr e'
       obtain ⟨n', c', q1, q2, _⟩ := hI.blk _ _ hb
       rw [hr] at q1; cases q1; omega
abbrev Ent := Bool × Memo
def noGl : Nat → Option (List Value) := fun _ => none
def Ent.gl (gl0 : Nat → Option (List Value)) (e : Ent) : Nat → Option (List Value) := match e.1 with | true => gl0 | false => noGl
noncomputable def memoL (test : (Nat → Option (List Value)) → Bool) (args : List AV) (H : AH) (l : List Ent) : Option (AV × AH) :=
 List.rec (motive := fun _ => Option (AV × AH)) none (fun e _ ih =>
   match memoF e.2 args H with
   | some r => (match e.1 with | false => some r | true => match test H.gl with | true => some r | false => none)
   | none => ih) l
noncomputable def memoO (test : (Nat → Option (List Value)) → Bool) (T : Tr (List Ent)) : CallF := fun g args H => match T.get g with | some l => memoL test args H l | none => none
noncomputable def mkTab (l : List Ent) : Tr (List Ent) :=
 List.rec (motive := fun _ => Tr (List Ent)) .lf (fun e _ ih => Tr.set 20 ih e.2.g (some (e :: (match ih.get e.2.g with | some m => m | none => [])))) l
def AllOk (P : Program) (gl0 : Nat → Option (List Value)) : List Ent → Prop
 | [] => True
 | e :: l => e.2.Ok P (e.gl gl0) ∧ AllOk P gl0 l
theorem AllOk.cons {gl0 : Nat → Option (List Value)} {e : Ent} {l : List Ent} (h : e.2.Ok P (e.gl gl0)) (t : AllOk P gl0 l) : AllOk P gl0 (e :: l) := ⟨h, t⟩
theorem mkTab_ok {gl0 : Nat → Option (List Value)} : ∀ {l : List Ent}, AllOk P gl0 l → ∀ g m, (mkTab l).get g = some m → ∀ e ∈ m, e.2.g = g ∧ e.2.Ok P (e.gl gl0)
 | [], _, g, m, h => by cases (show (none : Option (List Ent)) = some m from h)
 | e :: l, h, g, m, hm => by
   have hm : (Tr.set 20 (mkTab l) e.2.g (some (e :: (match (mkTab l).get e.2.g with | some m => m | none => [])))).get g = some m := hm
   have hlt : (e.2.g : Nat) < 2 ^ 19 := by
     have := h.1.wf; simp only [Memo.wf, Bool.and_eq_true] at this; have := this.2; rw [Nat.blt_eq] at this; exact this
   rw [Tr.get_set 20 _ _ _ _ (Nat.lt_of_lt_of_le (Nat.succ_lt_succ hlt) (by decide))] at hm
   have ih := mkTab_ok (l := l) h.2
   by_cases eg : g = e.2.g
   · rw [if_pos eg] at hm
     cases hm
     subst eg
     intro e' he'
     rcases List.mem_cons.1 he' with rfl | he'
     · exact ⟨rfl, h.1⟩
     · cases ht : (mkTab l).get e.2.g with
       | none => rw [ht] at he'; cases he'
       | some m' => rw [ht] at he'; exact ih _ _ ht e' he'
   · rw [if_neg eg] at hm
     exact ih _ _ hm
def TestOk (test : (Nat → Option (List Value)) → Bool) (gl0 : Nat → Option (List Value)) : Prop := ∀ t, test t = true → ∀ g vs, gl0 g = some vs → t g = some vs
theorem memoO_ok {test : (Nat → Option (List Value)) → Bool} {gl0 : Nat → Option (List Value)} (ht : TestOk test gl0) {l : List Ent} (h : AllOk P gl0 l) : CallOk P (memoO test (mkTab l)) := by
 intro g args H r H' hc hle base ρ w vs hI hf hv
 unfold memoO at hc
 split at hc
 · rename_i m hm
   have hok := mkTab_ok h g m hm
   clear hm
   induction m with
   | nil => cases hc
   | cons e m ih =>
     have hc : (match memoF e.2 args H with
       | some r => (match e.1 with | false => some r | true => match test H.gl with | true => some r | false => none)
       | none => memoL test args H m) = some (r, H') := hc
     obtain ⟨hg, hm⟩ := hok e (by simp)
     cases hf' : memoF e.2 args H with
     | none => rw [hf'] at hc; exact ih hc fun e he => hok e (by simp [he])
     | some q =>
       obtain ⟨r', H1⟩ := q
       rw [hf'] at hc
       obtain ⟨b, mm⟩ := e
       subst hg
       cases b with
       | false =>
         cases hc
         exact memoF_ok hm hf' (fun g vs h => by cases (show (none : Option (List Value)) = some vs from h)) hI hf hv
       | true =>
         simp only at hc
         cases e2 : test H.gl with
         | false => rw [e2] at hc; cases hc
         | true =>
           rw [e2] at hc; cases hc
           exact memoF_ok hm hf' (ht _ e2) hI hf hv
 · cases hc
end
end Go.Ev
