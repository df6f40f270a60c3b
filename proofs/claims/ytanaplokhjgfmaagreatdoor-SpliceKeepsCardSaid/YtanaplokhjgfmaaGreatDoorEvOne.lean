/- Part of an evaluator of calls that is proved sound, and of what it gives about this program. No condition of its own. -/
import Derived.OrdersHeld
import Derived.Below
import Derived.Laws.AppendOwn
set_option linter.unusedVariables false
set_option linter.unusedSimpArgs false
set_option linter.unusedSectionVars false
namespace Go.Ev
inductive AV where
 | v (x : Value)
 | ptr (b off : Nat)
 | slc (b off len cap : Nat)
 | slu (b off len sz : Nat)
 | sle (b off k sz : Nat)
 | fn (f : Fn) (fst cap : List AV)
 | agg (cs : List AV)
 | tup (cs : List AV)
 | mp (b : Nat)
 | yl (b : Nat)
 | ifc (t : TypeId) (x : AV)
 deriving Inhabited
inductive Tr (α : Type) where
 | lf
 | nd (o : Option α) (l r : Tr α)
namespace Tr
variable {α : Type}
noncomputable def get (t : Tr α) : Nat → Option α :=
 Tr.rec (motive := fun _ => Nat → Option α) (fun _ => none) (fun o _ _ l r n => Nat.casesOn n o fun n => Nat.casesOn (n % 2) (l (n / 2)) fun _ => r (n / 2)) t
def root : Tr α → Option α | .lf => none | .nd o _ _ => o
def left : Tr α → Tr α | .lf => .lf | .nd _ l _ => l
def right : Tr α → Tr α | .lf => .lf | .nd _ _ r => r
noncomputable def set (f : Nat) : Tr α → Nat → Option α → Tr α :=
 Nat.rec (motive := fun _ => Tr α → Nat → Option α → Tr α) (fun t _ _ => t)
   (fun _ ih t n x => Nat.casesOn n (.nd x t.left t.right) fun n => Nat.casesOn (n % 2) (.nd t.root (ih t.left (n / 2) x) t.right) fun _ => .nd t.root t.left (ih t.right (n / 2) x)) f
theorem get_nd (o : Option α) (l r : Tr α) (n : Nat) : (nd o l r).get n = match n with
   | 0 => o
   | n + 1 => match n % 2 with
     | 0 => l.get (n / 2)
     | _ => r.get (n / 2) := by
 cases n with
 | zero => rfl
 | succ n =>
   have key : ∀ k, (Nat.casesOn (motive := fun _ => Option α) k (l.get (n / 2)) (fun _ => r.get (n / 2)) : Option α) = match k with | 0 => l.get (n / 2) | _ => r.get (n / 2) := fun k => by cases k <;> rfl
   exact key (n % 2)
theorem set_succ (f : Nat) (t : Tr α) (n : Nat) (x : Option α) : set (f + 1) t n x = match n with
   | 0 => .nd x t.left t.right
   | n + 1 => match n % 2 with
     | 0 => .nd t.root (set f t.left (n / 2) x) t.right
     | _ => .nd t.root t.left (set f t.right (n / 2) x) := by
 cases n with
 | zero => rfl
 | succ n =>
   have key : ∀ k, (Nat.casesOn (motive := fun _ => Tr α) k (.nd t.root (set f t.left (n / 2) x) t.right) (fun _ => .nd t.root t.left (set f t.right (n / 2) x)) : Tr α) = match k with | 0 => .nd t.root (set f t.left (n / 2) x) t.right | _ => .nd t.root t.left (set f t.right (n / 2) x) := fun k => by cases k <;> rfl
   exact key (n % 2)
theorem get_lf (n : Nat) : (lf : Tr α).get n = none := rfl
theorem get_set : ∀ (f : Nat) (t : Tr α) (n : Nat) (x : Option α) (m : Nat), n + 1 < 2 ^ f → (set f t n x).get m = if m = n then x else t.get m
 | 0, _, n, _, _, h => by simp at h
 | f + 1, t, n, x, m, h => by
   have ht : t.get m = (nd t.root t.left t.right).get m := by
     cases t with
     | lf => rw [get_lf, get_nd]; cases m with
       | zero => rfl
       | succ m => simp only [left, right, get_lf]; split <;> rfl
     | nd o l r => rfl
   rw [set_succ, ht]
   cases n with
   | zero => cases m <;> simp [get_nd]
   | succ n =>
     have hn : n / 2 + 1 < 2 ^ f := by rw [Nat.pow_succ] at h; omega
     cases m with
     | zero =>
       rcases Nat.mod_two_eq_zero_or_one n with hn2 | hn2 <;> simp [hn2, get_nd]
     | succ m =>
       rcases Nat.mod_two_eq_zero_or_one n with hn2 | hn2 <;> rcases Nat.mod_two_eq_zero_or_one m with hm2 | hm2
       · simp only [hn2, get_nd, hm2]
         rw [get_set f t.left (n / 2) x (m / 2) hn]
         by_cases e : m = n
         · subst e; simp
         · rw [if_neg (by omega), if_neg (by omega)]
       · simp only [hn2, get_nd, hm2]
         rw [if_neg (by omega)]
       · simp only [hn2, get_nd, hm2]
         rw [if_neg (by omega)]
       · simp only [hn2, get_nd, hm2]
         rw [get_set f t.right (n / 2) x (m / 2) hn]
         by_cases e : m = n
         · subst e; simp
         · rw [if_neg (by omega), if_neg (by omega)]
end Tr
inductive AB where
 | cells (cs : List AV) (elem : TypeId) (grow : Nat)
 | map (es : List MapEntry) (clock : Nat)
 | iter (s : ByteArray) (pos : Nat)
 | lp (st : LoopState) (pend : Option Code) (fn : FuncId) (T : List AV) (ps : Array Tmp) (assign body : Code)
 | dfd
 | shut
structure AH where
 next : Nat
 tr : Tr AB
 /-- What some package-level variables hold. -/
 gl : Nat → Option (List Value)
noncomputable def AH.get (H : AH) (b : Nat) : Option AB := H.tr.get b
noncomputable def AH.set (H : AH) (b : Nat) (x : Option AB) : AH := { H with tr := H.tr.set 60 b x }
noncomputable def AH.add (H : AH) (x : AB) : AH := { next := H.next + 1, tr := H.tr.set 60 H.next (some x), gl := H.gl }
theorem AH.get_set (H : AH) (b : Nat) (x : Option AB) (m : Nat) (hb : b < 2 ^ 59) : (H.set b x).get m = if m = b then x else H.get m := by
 unfold AH.set AH.get
 exact Tr.get_set 60 _ _ _ _ (by omega)
noncomputable def lget (T : List AV) : Nat → AV := List.rec (motive := fun _ => Nat → AV) (fun _ => .v (.tuple #[])) (fun a _ ih t => Nat.casesOn t a ih) T
theorem lget_eq (T : List AV) (t : Nat) : lget T t = T.getD t (.v (.tuple #[])) := by
 induction T generalizing t with
 | nil => cases t <;> rfl
 | cons a T ih => cases t with
   | zero => rfl
   | succ t => exact ih t
noncomputable def lset (T : List AV) : Nat → AV → List AV := List.rec (motive := fun _ => Nat → AV → List AV) (fun _ _ => []) (fun a l ih t x => Nat.casesOn t (x :: l) fun t => a :: ih t x) T
theorem lset_eq (T : List AV) (t : Nat) (x : AV) : lset T t x = T.set t x := by
 induction T generalizing t with
 | nil => cases t <;> rfl
 | cons a T ih => cases t with
   | zero => rfl
   | succ t => exact congrArg (a :: ·) (ih t)
abbrev Pl := Nat → Option (Nat × Nat)
mutual
inductive CR (ρ : Pl) : AV → Value → Prop where
 | v (x : Value) : CR ρ (.v x) x
 | ptr {b off n c : Nat} (h : ρ b = some (n, c)) : CR ρ (.ptr b off) (.pointer (some ⟨n, off, none⟩))
 | slc {b off len cap n c : Nat} (h : ρ b = some (n, c)) : CR ρ (.slc b off len cap) (.slice (some ⟨n, off, none⟩) len cap)
 | slu {b off len sz n c : Nat} (h : ρ b = some (n, c)) : CR ρ (.slu b off len sz) (.slice (some ⟨n, off, none⟩) len ((c - off) / sz))
 | sle {b off k sz n c : Nat} (h : ρ b = some (n, c)) : CR ρ (.sle b off k sz) (.slice (some ⟨n, if (c - off) / sz = k then off else off + k * sz, none⟩) 0 ((c - off) / sz - k))
 | fn {f : Fn} {as bs : List AV} {xs ys : List Value} (h1 : CRs ρ as xs) (h2 : CRs ρ bs ys) : CR ρ (.fn f as bs) (.func f xs.toArray ys.toArray)
 | agg {as : List AV} {xs : List Value} (h : CRs ρ as xs) : CR ρ (.agg as) (.agg xs.toArray)
 | tup {as : List AV} {xs : List Value} (h : CRs ρ as xs) : CR ρ (.tup as) (.tuple xs.toArray)
 | mp {b n c : Nat} (h : ρ b = some (n, c)) : CR ρ (.mp b) (.map (some n))
 | yl {b n c : Nat} (h : ρ b = some (n, c)) : CR ρ (.yl b) (.func (.yield n) #[] #[])
 | ifc {t : TypeId} {a : AV} {v : Value} (h : CR ρ a v) : CR ρ (.ifc t a) (.iface t v)
inductive CRs (ρ : Pl) : List AV → List Value → Prop where
 | nil : CRs ρ [] []
 | cons {a : AV} {x : Value} {as : List AV} {xs : List Value} (h1 : CR ρ a x) (h2 : CRs ρ as xs) : CRs ρ (a :: as) (x :: xs)
end
def Pl.le (ρ ρ' : Pl) : Prop := ∀ b x, ρ b = some x → ρ' b = some x
theorem Pl.le_refl (ρ : Pl) : ρ.le ρ := fun _ _ h => h
theorem Pl.le_trans {a b c : Pl} (h : a.le b) (k : b.le c) : a.le c := fun x y e => k x y (h x y e)
mutual
theorem CR.mono {ρ ρ' : Pl} (hl : ρ.le ρ') : ∀ {a : AV} {x : Value}, CR ρ a x → CR ρ' a x
 | _, _, .v x => .v x
 | _, _, .ptr h => .ptr (hl _ _ h)
 | _, _, .slc h => .slc (hl _ _ h)
 | _, _, .slu h => .slu (hl _ _ h)
 | _, _, .sle h => .sle (hl _ _ h)
 | _, _, .fn h1 h2 => .fn (CRs.mono hl h1) (CRs.mono hl h2)
 | _, _, .agg h => .agg (CRs.mono hl h)
 | _, _, .tup h => .tup (CRs.mono hl h)
 | _, _, .mp h => .mp (hl _ _ h)
 | _, _, .yl h => .yl (hl _ _ h)
 | _, _, .ifc h => .ifc (CR.mono hl h)
theorem CRs.mono {ρ ρ' : Pl} (hl : ρ.le ρ') : ∀ {a : List AV} {x : List Value}, CRs ρ a x → CRs ρ' a x
 | _, _, .nil => .nil
 | _, _, .cons h1 h2 => .cons (CR.mono hl h1) (CRs.mono hl h2)
end
theorem CRs.length {ρ : Pl} {a : List AV} {x : List Value} (h : CRs ρ a x) : a.length = x.length := by
 induction a generalizing x with
 | nil => cases h; rfl
 | cons b a ih => cases h with | cons h1 h2 => simp [ih h2]
theorem CRs.get {ρ : Pl} {a : List AV} {x : List Value} (h : CRs ρ a x) (i : Nat) : (∃ p q, a[i]? = some p ∧ x[i]? = some q ∧ CR ρ p q) ∨ (a[i]? = none ∧ x[i]? = none) := by
 induction a generalizing x i with
 | nil => cases h; exact .inr ⟨by simp, by simp⟩
 | cons b a ih =>
   cases h with
   | cons h1 h2 =>
     cases i with
     | zero => exact .inl ⟨_, _, by simp, by simp, h1⟩
     | succ i => simpa using ih h2 i
theorem CRs.getD {ρ : Pl} {a : List AV} {x : List Value} (h : CRs ρ a x) (i : Nat) (d : Value) : CR ρ (a.getD i (.v d)) (x.getD i d) := by
 rcases h.get i with ⟨p, q, h1, h2, h3⟩ | ⟨h1, h2⟩
 · simp [List.getD, h1, h2, h3]
 · simp only [List.getD, h1, h2, Option.getD_none]; exact .v d
theorem CRs.set {ρ : Pl} {a : List AV} {x : List Value} (h : CRs ρ a x) (i : Nat) {p : AV} {q : Value} (hp : CR ρ p q) : CRs ρ (a.set i p) (x.set i q) := by
 induction a generalizing x i with
 | nil => cases h; exact .nil
 | cons b a ih =>
   cases h with
   | cons h1 h2 =>
     cases i with
     | zero => exact .cons hp h2
     | succ i => exact .cons h1 (ih h2 i)
theorem CRs.append {ρ : Pl} {a b : List AV} {x y : List Value} (h : CRs ρ a x) (k : CRs ρ b y) : CRs ρ (a ++ b) (x ++ y) := by
 induction a generalizing x with
 | nil => cases h; exact k
 | cons c a ih => cases h with | cons h1 h2 => exact .cons h1 (ih h2)
theorem CRs.drop {ρ : Pl} {a : List AV} {x : List Value} (h : CRs ρ a x) (n : Nat) : CRs ρ (a.drop n) (x.drop n) := by
 induction a generalizing x n with
 | nil => cases h; simp; exact .nil
 | cons c a ih =>
   cases h with
   | cons h1 h2 =>
     cases n with
     | zero => exact .cons h1 h2
     | succ n => exact ih h2 n
theorem CRs.take {ρ : Pl} {a : List AV} {x : List Value} (h : CRs ρ a x) (n : Nat) : CRs ρ (a.take n) (x.take n) := by
 induction a generalizing x n with
 | nil => cases h; simp; exact .nil
 | cons c a ih =>
   cases h with
   | cons h1 h2 =>
     cases n with
     | zero => exact .nil
     | succ n => exact .cons h1 (ih h2 n)
theorem CRs.vs (ρ : Pl) : ∀ l : List Value, CRs ρ (l.map .v) l
 | [] => .nil
 | x :: l => .cons (.v x) (CRs.vs ρ l)
mutual
def AV.plain : AV → Option Value
 | .v x => some x
 | .agg cs => match plains cs with | some l => some (.agg l.toArray) | none => none
 | .tup cs => match plains cs with | some l => some (.tuple l.toArray) | none => none
 | .fn f as bs => match plains as, plains bs with | some l, some m => some (.func f l.toArray m.toArray) | _, _ => none
 | .ptr _ _ => none
 | .slc _ _ _ _ => none
 | .slu _ _ _ _ => none
 | .sle _ _ _ _ => none
 | .mp _ => none
 | .yl _ => none
 | .ifc t x => match x.plain with | some v => some (.iface t v) | none => none
def plains : List AV → Option (List Value)
 | [] => some []
 | a :: l => match a.plain, plains l with | some x, some m => some (x :: m) | _, _ => none
end
mutual
theorem CR.plain {ρ : Pl} : ∀ {a : AV} {x y : Value}, CR ρ a x → a.plain = some y → x = y
 | .v _, _, _, .v _, h => by simpa [AV.plain] using h
 | .agg cs, _, y, .agg h1, h => by
   simp only [AV.plain] at h
   split at h
   · rename_i l hl; cases h; rw [CRs.plain h1 hl]
   · cases h
 | .tup cs, _, y, .tup h1, h => by
   simp only [AV.plain] at h
   split at h
   · rename_i l hl; cases h; rw [CRs.plain h1 hl]
   · cases h
 | .fn f as bs, _, y, .fn h1 h2, h => by
   simp only [AV.plain] at h
   split at h
   · rename_i l m hl hm; cases h; rw [CRs.plain h1 hl, CRs.plain h2 hm]
   · cases h
 | .ptr _ _, _, _, _, h => by simp [AV.plain] at h
 | .slc _ _ _ _, _, _, _, h => by simp [AV.plain] at h
 | .slu _ _ _ _, _, _, _, h => by simp [AV.plain] at h
 | .sle _ _ _ _, _, _, _, h => by simp [AV.plain] at h
 | .mp _, _, _, _, h => by simp [AV.plain] at h
 | .yl _, _, _, _, h => by simp [AV.plain] at h
 | .ifc t a, _, y, .ifc h1, h => by
   simp only [AV.plain] at h
   split at h
   · rename_i v hv; cases h; rw [CR.plain h1 hv]
   · cases h
theorem CRs.plain {ρ : Pl} : ∀ {a : List AV} {x y : List Value}, CRs ρ a x → plains a = some y → x = y
 | [], _, _, .nil, h => by simpa [plains] using h
 | a :: l, _, y, .cons h1 h2, h => by
   simp only [plains] at h
   split at h
   · rename_i x' m' hx hm; cases h; rw [CR.plain h1 hx, CRs.plain h2 hm]
   · cases h
end
def AV.cells : AV → List AV
 | .agg cs => cs
 | .v x => x.cells.toList.map .v
 | a => [a]
theorem CR.cells {ρ : Pl} {a : AV} {x : Value} (h : CR ρ a x) : CRs ρ a.cells x.cells.toList := by
 cases h with
 | v x => exact CRs.vs ρ _
 | agg h => simpa [AV.cells, Value.cells] using h
 | ptr h => exact .cons (.ptr h) .nil
 | slc h => exact .cons (.slc h) .nil
 | slu h => exact .cons (.slu h) .nil
 | sle h => exact .cons (.sle h) .nil
 | fn h1 h2 => exact .cons (.fn h1 h2) .nil
 | tup h => exact .cons (.tup h) .nil
 | mp h => exact .cons (.mp h) .nil
 | yl h => exact .cons (.yl h) .nil
 | ifc h => exact .cons (.ifc h) .nil
def AV.one : AV → Bool
 | .agg _ => false
 | .tup _ => false
 | .v x => x.oneCell'
 | _ => true
theorem CR.one {ρ : Pl} {a : AV} {x : Value} (h : CR ρ a x) (ha : a.one = true) : x.oneCell' = true := by
 cases h <;> first | rfl | exact ha | exact absurd ha (by simp [AV.one])
end Go.Ev
namespace Go.Ev
def runPure {α : Type} (P : Program) : Sem α → Option α
 | .pure a => some a
 | .program k => runPure P (k P)
 | .mark _ k => runPure P k
 | _ => none
theorem runPure_run {α : Type} {P : Program} {s : Sem α} {a : α} (h : runPure P s = some a) (w : World) : s.run P w = .ok a w := by
 induction s with
 | pure x => simp only [runPure, Option.some.injEq] at h; subst h; rfl
 | program k ih => exact ih P h
 | mark m k ih => exact ih h
 | _ => simp [runPure] at h
def Thawed (g : Nat) (fz : Nat × Nat) (k : Nat) : Prop := (∀ i, i < k → (decide (fz.1 ≤ i) && decide (i < fz.2)) = false) ∧ (g = 0 → fz = (0, 0)) ∧ (g = 0 ∨ k ≤ g * 9223372036854775807)
theorem thawed0 (k : Nat) : Thawed 0 (0, 0) k := ⟨fun i _ => by simp, fun _ => rfl, .inl rfl⟩
theorem thawedG {g k : Nat} (h : k ≤ g * 9223372036854775807) : Thawed g (0, 0) k := ⟨fun i _ => by simp, fun _ => rfl, .inr h⟩
def BlkR (ρ : Pl) (n c : Nat) (w : World) : AB → Prop
 | .cells cs elem grow => ∃ xs extra, CRs ρ cs xs ∧ (∃ fz, w.heap[n]? = some (.cells (xs ++ extra).toArray elem fz) ∧ Thawed grow fz (xs ++ extra).length) ∧ c = xs.length + extra.length ∧ (grow = 0 → extra = [])
 | .map es clock => w.heap[n]? = some (.map es.toArray clock)
 | .iter s pos => w.heap[n]? = some (.stringIter s pos)
 | .lp st pend _ T ps assign body => ∃ tmps d fn, CRs ρ T tmps ∧ w.heap[n]? = some (.loop { state := st, pending := pend, fn, tmps := tmps.toArray, params := ps, assign, body, defers := d })
 | .dfd => w.heap[n]? = some (.deferred (some []))
 | .shut => w.heap[n]? = some (.deferred none)
theorem BlkR.mono {ρ ρ' : Pl} {n c : Nat} {w w' : World} {x : AB} (hl : ρ.le ρ') (hw : w'.heap[n]? = w.heap[n]?) (h : BlkR ρ n c w x) : BlkR ρ' n c w' x := by
 cases x with
 | cells cs e g => obtain ⟨xs, ex, h1, ⟨fz, h2, h2'⟩, h3⟩ := h; exact ⟨xs, ex, h1.mono hl, ⟨fz, hw.trans h2, h2'⟩, h3⟩
 | map es cl => exact hw.trans h
 | iter s p => exact hw.trans h
 | lp st pend fn T ps as bo => obtain ⟨tmps, d, f, h1, h2⟩ := h; exact ⟨tmps, d, f, h1.mono hl, hw.trans h2⟩
 | dfd => exact hw.trans h
 | shut => exact hw.trans h
theorem BlkR.lt {ρ : Pl} {n c : Nat} {w : World} {x : AB} (h : BlkR ρ n c w x) : n < w.heap.size := by
 rcases Nat.lt_or_ge n w.heap.size with h' | h'
 · exact h'
 · cases x with
   | cells cs e g => obtain ⟨xs, ex, _, ⟨fz, h2, _⟩, _⟩ := h; simp [Array.getElem?_eq_none h'] at h2
   | map es cl => simp [BlkR, Array.getElem?_eq_none h'] at h
   | iter s p => simp [BlkR, Array.getElem?_eq_none h'] at h
   | lp st pend fn T ps as bo => obtain ⟨tmps, d, _, _, h2⟩ := h; simp [Array.getElem?_eq_none h'] at h2
   | dfd => simp [BlkR, Array.getElem?_eq_none h'] at h
   | shut => simp [BlkR, Array.getElem?_eq_none h'] at h
structure Inv (base : Nat) (ρ : Pl) (H : AH) (w : World) : Prop where
 blk : ∀ b x, H.get b = some x → ∃ n c, ρ b = some (n, c) ∧ base ≤ n ∧ BlkR ρ n c w x
 inj : ∀ b b' x x' n c c', H.get b = some x → H.get b' = some x' → ρ b = some (n, c) → ρ b' = some (n, c') → b = b'
 dom : ∀ b x, H.get b = some x → b < H.next
 nx : H.next ≤ 2 ^ 59
 bs : base ≤ w.heap.size
 gl : ∀ g vs, H.gl g = some vs → g < base ∧ ∃ e fz, w.heap[g]? = some (.cells vs.toArray e fz)
structure Post (base : Nat) (ρ : Pl) (H : AH) (w : World) (ρ' : Pl) (H' : AH) (w' : World) : Prop where
 le : ρ.le ρ'
 fresh : ∀ b, ρ' b ≠ ρ b → H.next ≤ b ∧ b < H'.next
 nx : H.next ≤ H'.next
 inv : Inv base ρ' H' w'
 frame : ∀ k, k < w.heap.size → (∀ b x n c, H.get b = some x → ρ b = some (n, c) → n ≠ k) → w'.heap[k]? = w.heap[k]?
 own : ∀ b x n c, H'.get b = some x → ρ' b = some (n, c) → w.heap.size ≤ n ∨ ∃ b0 x0 c0, H.get b0 = some x0 ∧ ρ b0 = some (n, c0)
 size : w.heap.size ≤ w'.heap.size
 os : w'.os = w.os
 tape : w'.tape = w.tape
 output : w'.output = w.output
theorem Post.refl {base : Nat} {ρ : Pl} {H : AH} {w : World} (h : Inv base ρ H w) : Post base ρ H w ρ H w :=
 ⟨ρ.le_refl, fun _ h => absurd rfl h, Nat.le_refl _, h, fun _ _ _ => rfl, fun b x n c h1 h2 => .inr ⟨b, x, c, h1, h2⟩, Nat.le_refl _, rfl, rfl, rfl⟩
theorem Post.trans {base : Nat} {ρ ρ1 ρ2 : Pl} {H H1 H2 : AH} {w w1 w2 : World} (h : Post base ρ H w ρ1 H1 w1) (k : Post base ρ1 H1 w1 ρ2 H2 w2) : Post base ρ H w ρ2 H2 w2 := {
 le := Pl.le_trans h.le k.le
 fresh := fun b hb => by
   by_cases e : ρ2 b = ρ1 b
   · have := h.fresh b (by rw [← e]; exact hb)
     exact ⟨this.1, Nat.lt_of_lt_of_le this.2 k.nx⟩
   · have := k.fresh b e
     exact ⟨Nat.le_trans h.nx this.1, this.2⟩
 nx := Nat.le_trans h.nx k.nx
 inv := k.inv
 frame := fun i hi hn => by
   rw [k.frame i (Nat.lt_of_lt_of_le hi h.size) ?_, h.frame i hi hn]
   intro b x n c hb hr e
   subst e
   rcases h.own b x n c hb hr with h' | ⟨b0, x0, c0, h1, h2⟩
   · omega
   · exact hn b0 x0 n c0 h1 h2 rfl
 own := fun b x n c hb hr => by
   rcases k.own b x n c hb hr with h' | ⟨b0, x0, c0, h1, h2⟩
   · exact .inl (Nat.le_trans h.size h')
   · exact h.own b0 x0 n c0 h1 h2
 size := Nat.le_trans h.size k.size
 os := k.os.trans h.os
 tape := k.tape.trans h.tape
 output := k.output.trans h.output }
theorem Pl.le_of_fresh {ρ : Pl} {b : Nat} (x : Nat × Nat) (h : ρ b = none) : ρ.le (fun i => if i = b then some x else ρ i) := by
 intro i y hy
 show (if i = b then some x else ρ i) = some y
 rw [if_neg (fun e => by subst e; rw [h] at hy; cases hy)]
 exact hy
theorem Post.drew {base : Nat} {ρ : Pl} {H : AH} {w : World} (h : Inv base ρ H w) (d : Nat) : Post base ρ H w ρ H { w with drawn := d } := {
 le := ρ.le_refl
 fresh := fun _ h => absurd rfl h
 nx := Nat.le_refl _
 inv := { h with blk := fun b x hb => by obtain ⟨n, c, h1, h2, h3⟩ := h.blk b x hb; exact ⟨n, c, h1, h2, h3.mono ρ.le_refl rfl⟩ }
 frame := fun _ _ _ => rfl
 own := fun b x n c h1 h2 => .inr ⟨b, x, c, h1, h2⟩
 size := Nat.le_refl _
 os := rfl
 tape := rfl
 output := rfl }
theorem Post.add {base : Nat} {ρ : Pl} {H : AH} {w : World} (h : Inv base ρ H w) (hn : H.next < 2 ^ 59) (hf : ρ H.next = none) (x : AB) (o : Obj) (c : Nat)
   (hx : ∀ (ρ' : Pl) (w' : World), ρ.le ρ' → w'.heap[w.heap.size]? = some o → BlkR ρ' w.heap.size c w' x) :
   Post base ρ H w (fun i => if i = H.next then some (w.heap.size, c) else ρ i) (H.add x) (w.alloc o) := by
 have hle := Pl.le_of_fresh (ρ := ρ) (b := H.next) (w.heap.size, c) hf
 have hg : ∀ m, (H.add x).get m = if m = H.next then some x else H.get m := fun m => by
   unfold AH.add AH.get; exact Tr.get_set 60 _ _ _ _ (by omega)
 have hnew : (w.alloc o).heap[w.heap.size]? = some o := by show (w.heap.push o)[w.heap.size]? = _; simp
 have hold : ∀ k, k < w.heap.size → (w.alloc o).heap[k]? = w.heap[k]? := fun k hk => RowKit.Below.heap_alloc w o k hk
 have hdom : H.get H.next = none := by
   cases e : H.get H.next with
   | none => rfl
   | some y => exact absurd (h.dom _ _ e) (by omega)
 refine ⟨hle, ?_, by simp [AH.add], ⟨?_, ?_, ?_, by simp [AH.add]; omega, by rw [World.size_alloc]; have := h.bs; omega, fun g vs hg => by
   obtain ⟨h1, e, fz, h2⟩ := h.gl g vs hg
   exact ⟨h1, e, fz, by rw [hold g (by have := h.bs; omega)]; exact h2⟩⟩, fun k hk _ => hold k hk, ?_, by rw [World.size_alloc]; omega, rfl, rfl, rfl⟩
 · intro b hb
   by_cases e : b = H.next
   · subst e; simp [AH.add]
   · simp [e] at hb
 · intro b y hb
   rw [hg] at hb
   by_cases e : b = H.next
   · subst e
     simp at hb
     subst hb
     exact ⟨w.heap.size, c, by simp, h.bs, hx _ _ hle hnew⟩
   · simp [e] at hb
     obtain ⟨n, c', h1, h2, h3⟩ := h.blk b y hb
     exact ⟨n, c', hle _ _ h1, h2, h3.mono hle (hold n h3.lt)⟩
 · intro b b' y y' n c1 c2 hb hb' hr hr'
   rw [hg] at hb hb'
   by_cases e : b = H.next <;> by_cases e' : b' = H.next
   · omega
   · simp [e] at hr; simp [e'] at hb' hr'
     obtain ⟨n', c', h1, h2, h3⟩ := h.blk b' y' hb'
     rw [hr'] at h1; cases h1
     have := h3.lt; omega
   · simp [e'] at hr'; simp [e] at hb hr
     obtain ⟨n', c', h1, h2, h3⟩ := h.blk b y hb
     rw [hr] at h1; cases h1
     have := h3.lt; omega
   · simp [e] at hb hr; simp [e'] at hb' hr'
     exact h.inj b b' y y' n c1 c2 hb hb' hr hr'
 · intro b y hb
   rw [hg] at hb
   show b < H.next + 1
   by_cases e : b = H.next
   · omega
   · simp [e] at hb; have := h.dom b y hb; omega
 · intro b y n c' hb hr
   rw [hg] at hb
   by_cases e : b = H.next
   · simp [e] at hr; exact .inl (by omega)
   · simp [e] at hb hr; exact .inr ⟨b, y, c', hb, hr⟩
theorem Post.put {base : Nat} {ρ : Pl} {H : AH} {w : World} (h : Inv base ρ H w) {b n c : Nat} {x0 : AB} (hb : H.get b = some x0) (hr : ρ b = some (n, c)) (x : AB) (w' : World)
   (hos : w'.os = w.os) (htape : w'.tape = w.tape) (hout : w'.output = w.output) (hsz : w'.heap.size = w.heap.size)
   (hother : ∀ k, k ≠ n → w'.heap[k]? = w.heap[k]?) (hx : BlkR ρ n c w' x) :
   Post base ρ H w ρ (H.set b (some x)) w' := by
 have hlt : b < 2 ^ 59 := Nat.lt_of_lt_of_le (h.dom _ _ hb) h.nx
 have hg : ∀ m, (H.set b (some x)).get m = if m = b then some x else H.get m := fun m => AH.get_set H b _ m hlt
 have hlive : ∀ m y, (H.set b (some x)).get m = some y → ∃ z, H.get m = some z := by
   intro m y hm
   rw [hg] at hm
   by_cases e : m = b
   · subst e; exact ⟨_, hb⟩
   · simp [e] at hm; exact ⟨_, hm⟩
 refine ⟨ρ.le_refl, fun _ h => absurd rfl h, Nat.le_refl _, ⟨?_, ?_, ?_, h.nx, by rw [hsz]; exact h.bs, fun g vs hg => by
   obtain ⟨h1, e, fz, h2⟩ := h.gl g vs hg
   obtain ⟨n', c', k1, k2, _⟩ := h.blk b _ hb
   rw [hr] at k1; cases k1
   exact ⟨h1, e, fz, by rw [hother g (by omega)]; exact h2⟩⟩, ?_, ?_, by omega, hos, htape, hout⟩
 · intro m y hm
   rw [hg] at hm
   by_cases e : m = b
   · subst e
     simp at hm; subst hm
     obtain ⟨n', c', h1, h2, _⟩ := h.blk m _ hb
     rw [hr] at h1; cases h1
     exact ⟨n, c, hr, h2, hx⟩
   · simp [e] at hm
     obtain ⟨n', c', h1, h2, h3⟩ := h.blk m _ hm
     refine ⟨n', c', h1, h2, h3.mono ρ.le_refl (hother n' ?_)⟩
     intro en
     subst en
     exact e (h.inj _ _ _ _ _ _ _ hm hb h1 hr)
 · intro m m' y y' n1 c1 c2 hm hm' h1 h2
   obtain ⟨z, hz⟩ := hlive m y hm
   obtain ⟨z', hz'⟩ := hlive m' y' hm'
   exact h.inj _ _ _ _ _ _ _ hz hz' h1 h2
 · intro m y hm
   obtain ⟨z, hz⟩ := hlive m y hm
   exact h.dom _ _ hz
 · intro k _ hk
   exact hother k (fun e => hk b x0 n c hb hr e.symm)
 · intro m y n1 c1 hm h1
   obtain ⟨z, hz⟩ := hlive m y hm
   exact .inr ⟨m, z, c1, hz, h1⟩
theorem Post.forget {base : Nat} {ρ : Pl} {H : AH} {w : World} (h : Inv base ρ H w) {b : Nat} {x0 : AB} (hb : H.get b = some x0) : Post base ρ H w ρ (H.set b none) w := by
 have hlt : b < 2 ^ 59 := Nat.lt_of_lt_of_le (h.dom _ _ hb) h.nx
 have hg : ∀ m y, (H.set b none).get m = some y → H.get m = some y := fun m y hm => by
   rw [AH.get_set H b _ m hlt] at hm
   by_cases e : m = b <;> simp [e] at hm
   exact hm
 refine ⟨ρ.le_refl, fun _ h => absurd rfl h, Nat.le_refl _, ⟨fun m y hm => h.blk m y (hg m y hm), fun m m' y y' n1 c1 c2 hm hm' => h.inj _ _ _ _ _ _ _ (hg _ _ hm) (hg _ _ hm'), fun m y hm => h.dom m y (hg m y hm), h.nx, h.bs, h.gl⟩, fun _ _ _ => rfl, ?_, Nat.le_refl _, rfl, rfl, rfl⟩
 intro m y n1 c1 hm h1
 exact .inr ⟨m, y, c1, hg _ _ hm, h1⟩
end Go.Ev
namespace Go.Ev
section
variable {P : Program} {base : Nat} {ρ : Pl} {H : AH} {w : World}
theorem cell_of {n off : Nat} {c : Array Value} {e : TypeId} {z : Nat × Nat} (h : w.heap[n]? = some (.cells c e z)) : w.cell? ⟨n, off, none⟩ = c[off]? := by
 simp [World.cell?, h]
theorem run_loadCells {n : Nat} {c : Array Value} {e : TypeId} {z : Nat × Nat} (h : w.heap[n]? = some (.cells c e z)) (off : Nat) : ∀ (k i : Nat) (acc : Array Value),
   off + i + k ≤ c.size → (loadCellsFrom ⟨n, off, none⟩ i k acc).run P w = .ok (acc ++ (((c.toList.drop (off + i)).take k).toArray)) w
 | 0, i, acc, _ => by simp [loadCellsFrom]
 | k + 1, i, acc, hk => by
   have hadd : Addr.add ⟨n, off, none⟩ i = ⟨n, off + i, none⟩ := by
     unfold Addr.add; split
     · rename_i e; subst e; rfl
     · rfl
   have hlt : off + i < c.size := by omega
   have hc : w.cell? ⟨n, off + i, none⟩ = some c[off + i] := by rw [cell_of h]; simp [hlt]
   have hl : c.toList.drop (off + i) = c[off + i] :: c.toList.drop (off + i + 1) := by
     rw [List.drop_eq_getElem_cons (by simpa using hlt)]; simp
   simp only [loadCellsFrom, Sem.run_bind, run_load, hadd, hc, Result.andThen_ok]
   rw [run_loadCells h off k (i + 1) _ (by omega), hl]
   congr 1
   apply Array.ext'
   simp [Nat.add_assoc]
noncomputable def loadA (P : Program) (t : TypeId) (b off : Nat) (H : AH) : Option AV :=
 match H.get b with
 | some (.cells cs _ _) =>
   match runPure P (isAgg t) with
   | some true =>
     match runPure P (sizeOf t) with
     | some n => if Nat.ble (off + n) cs.length then some (.agg ((cs.drop off).take n)) else none
     | none => none
   | some false => cs[off]?
   | none => none
 | _ => none
theorem take_drop_append {α : Type} (xs ys : List α) (off n : Nat) (h : off + n ≤ xs.length) : ((xs ++ ys).drop off).take n = (xs.drop off).take n := by
 rw [List.drop_append_of_le_length (by omega), List.take_append_of_le_length (by simp; omega)]
theorem run_loadVar {t : TypeId} {b off n c : Nat} {r : AV} (hI : Inv base ρ H w) (hb : ρ b = some (n, c)) (h : loadA P t b off H = some r) :
   ∃ v, CR ρ r v ∧ (loadVar t ⟨n, off, none⟩).run P w = .ok v w := by
 unfold loadA at h
 split at h
 · rename_i cs e g hg
   obtain ⟨n', c', h1, _, xs, ex, hx, ⟨fz, hh, _⟩, _, _⟩ := hI.blk _ _ hg
   rw [hb] at h1; cases h1
   have hlen := hx.length
   split at h
   · rename_i ha
     split at h
     · rename_i k hk
       split at h
       · rename_i hle
         cases h
         have hle' : off + k ≤ cs.length := Nat.le_of_ble_eq_true hle
         refine ⟨.agg ((xs.drop off).take k).toArray, .agg ((hx.drop off).take k), ?_⟩
         have := run_loadCells (P := P) hh off k 0 #[] (by simp; omega)
         simp only [loadVar, Sem.run_bind, runPure_run ha, Result.andThen_ok, if_true, runPure_run hk, loadCells, this, Sem.run_pure]
         simp only [Nat.add_zero, List.append_toArray, List.toList_toArray, take_drop_append xs ex off k (by omega)]
         simp
       · cases h
     · cases h
   · rename_i ha
     rcases hx.get off with ⟨p, q, h3, h4, h5⟩ | ⟨h3, _⟩
     · rw [h] at h3; cases h3
       refine ⟨q, h5, ?_⟩
       have hq : (xs ++ ex)[off]? = some q := by
         rw [List.getElem?_append_left (by have := (List.getElem?_eq_some_iff.1 h4).1; exact this)]; exact h4
       simp only [loadVar, Sem.run_bind, runPure_run ha, Result.andThen_ok]
       simp only [Bool.false_eq_true, if_false, run_load, cell_of hh, List.getElem?_toArray, hq]
     · rw [h] at h3; cases h3
   · cases h
 · cases h
noncomputable def loadG (P : Program) (t : TypeId) (g off : Nat) (H : AH) : Option AV :=
 match H.gl g with
 | some vs =>
   match runPure P (isAgg t) with
   | some true =>
     match runPure P (sizeOf t) with
     | some n => if Nat.ble (off + n) vs.length then some (.v (.agg ((vs.drop off).take n).toArray)) else none
     | none => none
   | some false => (vs[off]?).map .v
   | none => none
 | none => none
theorem run_loadG {t : TypeId} {g off : Nat} {r : AV} (hI : Inv base ρ H w) (h : loadG P t g off H = some r) :
   ∃ v, CR ρ r v ∧ (loadVar t ⟨g, off, none⟩).run P w = .ok v w := by
 unfold loadG at h
 split at h
 · rename_i vs hg
   obtain ⟨_, e, fz, hh⟩ := hI.gl _ _ hg
   split at h
   · rename_i ha
     split at h
     · rename_i k hk
       split at h
       · rename_i hle
         cases h
         have hle' : off + k ≤ vs.length := Nat.le_of_ble_eq_true hle
         refine ⟨_, .v _, ?_⟩
         have := run_loadCells (P := P) hh off k 0 #[] (by simp; omega)
         simp only [loadVar, Sem.run_bind, runPure_run ha, Result.andThen_ok, if_true, runPure_run hk, loadCells, this, Sem.run_pure]
         simp
       · cases h
     · cases h
   · rename_i ha
     cases hq : vs[off]? with
     | none => simp [hq] at h
     | some q =>
       simp [hq] at h
       subst h
       refine ⟨q, .v _, ?_⟩
       simp only [loadVar, Sem.run_bind, runPure_run ha, Result.andThen_ok]
       simp only [Bool.false_eq_true, if_false, run_load, cell_of hh, List.getElem?_toArray, hq]
   · cases h
 · cases h
theorem run_storeCells {g : Nat} {n : Nat} {e : TypeId} {fz : Nat × Nat} (off : Nat) : ∀ (vs : List Value) (i : Nat) (w : World) (c : Array Value), w.heap[n]? = some (.cells c e fz) → Thawed g fz c.size → off + i + vs.length ≤ c.size →
   (∀ u ∈ vs, u.oneCell' = true) → ∃ w', (storeCells ⟨n, off, none⟩ vs i).run P w = .ok () w' ∧ w'.os = w.os ∧ w'.tape = w.tape ∧ w'.output = w.output ∧ w'.heap.size = w.heap.size ∧
     (∀ k, k ≠ n → w'.heap[k]? = w.heap[k]?) ∧ w'.heap[n]? = some (.cells (c.toList.take (off + i) ++ vs ++ c.toList.drop (off + i + vs.length)).toArray e fz)
 | [], i, w, c, h, _, _, _ => by
   refine ⟨w, rfl, rfl, rfl, rfl, rfl, fun _ _ => rfl, ?_⟩
   rw [h]; simp
 | v :: vs, i, w, c, h, hz, hk, h1 => by
   have hadd : Addr.add ⟨n, off, none⟩ i = ⟨n, off + i, none⟩ := by
     unfold Addr.add; split
     · rename_i e; subst e; rfl
     · rfl
   simp only [List.length_cons] at hk
   have hlt : off + i < c.size := by omega
   have hc : w.cell? ⟨n, off + i, none⟩ = some c[off + i] := by rw [cell_of h]; simp [hlt]
   have hfz : w.frozen? ⟨n, off + i, none⟩ = false := by simpa [World.frozen?, h] using hz.1 _ hlt
   have hw1 : (w.setCell ⟨n, off + i, none⟩ v).heap[n]? = some (.cells (c.setIfInBounds (off + i) v) e fz) := by
     simp [World.setCell, Array.getElem?_modify, h]
   have hv : v.oneCell' = true := h1 v (by simp)
   obtain ⟨w', hr, h2, h3, h4, h5, h6, h7⟩ := run_storeCells off vs (i + 1) (w.setCell ⟨n, off + i, none⟩ v) _ hw1 (by simpa using hz) (by simp; omega) (fun u hu => h1 u (by simp [hu]))
   refine ⟨w', ?_, h2, h3, h4, by rw [h5]; simp, fun k hk => by rw [h6 k hk]; exact RowKit.Below.heap_setCell _ _ _ _ hk, ?_⟩
   · simp only [storeCells, Sem.run_bind, hadd, run_store P w _ v .plain hv, hc, hfz, Bool.false_eq_true, if_false, Result.andThen_ok]
     exact hr
   · rw [h7]
     have hl : c.toList = c.toList.take (off + i) ++ c[off + i] :: c.toList.drop (off + i + 1) := by
       conv => lhs; rw [← List.take_append_drop (off + i) c.toList]
       rw [List.drop_eq_getElem_cons (by simpa using hlt)]; simp
     have hset : (c.setIfInBounds (off + i) v).toList = c.toList.take (off + i) ++ v :: c.toList.drop (off + i + 1) := by
       rw [Array.toList_setIfInBounds, List.set_eq_take_append_cons_drop, if_pos (by simpa using hlt)]
     have hlen : (c.toList.take (off + i)).length = off + i := by simp; omega
     have e1 : (c.setIfInBounds (off + i) v).toList.take (off + (i + 1)) = c.toList.take (off + i) ++ [v] := by
       rw [hset, List.take_append, hlen, List.take_of_length_le (by omega), show off + (i + 1) - (off + i) = 1 from by omega]
       simp
     have e2 : (c.setIfInBounds (off + i) v).toList.drop (off + (i + 1) + vs.length) = c.toList.drop (off + i + (v :: vs).length) := by
       rw [hset, List.drop_append, hlen, List.drop_of_length_le (by omega)]
       rw [show off + (i + 1) + vs.length - (off + i) = vs.length + 1 from by omega]
       simp only [List.nil_append, List.drop_succ_cons, List.drop_drop, List.length_cons]
       congr 1; omega
     rw [e1, e2]
     simp
def wr (cs : List AV) (off : Nat) (vs : List AV) : List AV := cs.take off ++ vs ++ cs.drop (off + vs.length)
noncomputable def storeA (b off : Nat) (vs : List AV) (H : AH) : Option AH :=
 match H.get b with
 | some (.cells cs e g) => if Nat.ble (off + vs.length) cs.length && vs.all AV.one then some (H.set b (some (.cells (wr cs off vs) e g))) else none
 | _ => none
theorem run_storeA {b off n c : Nat} {H' : AH} {vs : List AV} {us : List Value} (hI : Inv base ρ H w) (hb : ρ b = some (n, c)) (hv : CRs ρ vs us) (h : storeA b off vs H = some H') :
   ∃ w', (storeCells ⟨n, off, none⟩ us).run P w = .ok () w' ∧ Post base ρ H w ρ H' w' := by
 unfold storeA at h
 split at h
 · rename_i cs e g hg
   split at h
   · rename_i hc
     simp only [Bool.and_eq_true] at hc
     obtain ⟨hle, hone⟩ := hc
     have hle := Nat.le_of_ble_eq_true hle
     cases h
     obtain ⟨n', c', h1, _, xs, ex, hx, ⟨fz, hh, hfz⟩, hcc, hgr⟩ := hI.blk _ _ hg
     rw [hb] at h1; cases h1
     have hlen := hx.length
     have hvl := hv.length
     have hone' : ∀ u ∈ us, u.oneCell' = true := by
       intro u hu
       obtain ⟨i, hi⟩ := List.mem_iff_getElem?.1 hu
       rcases hv.get i with ⟨p, q, h3, h4, h5⟩ | ⟨_, h4⟩
       · rw [hi] at h4; cases h4
         exact h5.one (by have := List.all_eq_true.1 hone p (List.mem_of_getElem? h3); exact this)
       · rw [hi] at h4; cases h4
     obtain ⟨w', hr, h2, h3, h4, h5, h6, h7⟩ := run_storeCells (P := P) off us 0 w _ hh (by simpa using hfz) (by simp; omega) hone'
     refine ⟨w', hr, Post.put hI hg hb _ w' h2 h3 h4 h5 h6 ?_⟩
     have hll : (xs.take off ++ us ++ xs.drop (off + us.length) ++ ex).length = (xs ++ ex).length := by simp; omega
     refine ⟨xs.take off ++ us ++ xs.drop (off + us.length), ex, ?_, ⟨fz, ?_, by rw [hll]; exact hfz⟩, ?_, hgr⟩
     · unfold wr; rw [hvl]; exact ((hx.take off).append hv).append (hx.drop _)
     · rw [h7]
       simp only [Nat.add_zero, List.toList_toArray]
       congr 2
       rw [List.take_append_of_le_length (by omega), List.drop_append_of_le_length (by omega)]
       simp
     · rw [hcc]; simp; omega
   · cases h
 · cases h
noncomputable def newA (elem : TypeId) (cs : List AV) (H : AH) : Option AH := if Nat.blt H.next (2 ^ 59) then some (H.add (.cells cs elem 0)) else none
theorem run_newA {elem : TypeId} {cs : List AV} {us : List Value} {H' : AH} (hI : Inv base ρ H w) (hf : ∀ b, H.next ≤ b → b < H'.next → ρ b = none) (hv : CRs ρ cs us) (h : newA elem cs H = some H') :
   ∃ ρ' w', Post base ρ H w ρ' H' w' ∧ ρ' H.next = some (w.heap.size, us.length) ∧ (newRow elem us.toArray).run P w = .ok ⟨w.heap.size, 0, none⟩ w' := by
 unfold newA at h
 split at h
 · rename_i hlt
   have hlt : H.next < 2 ^ 59 := Nat.le_of_ble_eq_true hlt
   cases h
   have hfn : ρ H.next = none := hf _ (Nat.le_refl _) (by simp [AH.add])
   refine ⟨_, _, Post.add hI hlt hfn _ (.cells us.toArray elem) us.length ?_, by simp, ?_⟩
   · intro ρ' w' hl hw
     exact ⟨us, [], hv.mono hl, ⟨(0, 0), by rw [hw]; simp, thawed0 _⟩, by simp, fun _ => rfl⟩
   · simp only [newRow, Sem.run_bind, run_newObj, Result.andThen_ok, Sem.run_pure]; rfl
 · cases h
end
end Go.Ev
namespace Go.Ev
noncomputable def av (T : List AV) : Operand → AV
 | .tmp t => lget T t
 | .const x => .v x
 | .global g => .v (.pointer (some ⟨g, 0, none⟩))
 | .func f => .v (.func (.func f) #[] #[])
def natA : AV → Option Nat
 | .v (.int _ (.ofNat k)) => some k
 | _ => none
inductive RO where
 | val (x : AV) (H : AH)
 | call (f : FuncId) (args : List AV)
noncomputable def plainOp (P : Program) (T : List AV) (H : AH) (o : Oper) : Option RO :=
 if o.op.operands.toList.all (fun x => (av T x).plain.isSome) then
   match o.op with
   | .select _ _ => none
   | _ =>
     match runPure P (execOp (fun x => ((av T x).plain).getD undef) o) with
     | some (.value v) => some (.val (.v v) H)
     | some .skip => some (.val (.v undef) H)
     | some (.enter f args) => some (.call f (args.toList.map .v))
     | _ => none
 else none
noncomputable def allocA (P : Program) (t : TypeId) (H : AH) : Option RO :=
 match runPure P (zeroValue t) with
 | some z => (newA t (z.cells.toList.map .v) H).map fun H' => .val (.ptr H.next 0) H'
 | none => none
noncomputable def boxA (t : TypeId) (x : AV) (H : AH) : Option RO := (newA t x.cells H).map fun H' => .val (.ptr H.next 0) H'
noncomputable def storeOpA (P : Program) (t : TypeId) (p x : AV) (H : AH) : Option RO :=
 match p with
 | .ptr b off =>
   match runPure P (sizeOf t) with
   | some n => if Nat.beq x.cells.length n then (storeA b off x.cells H).map (.val (.v undef)) else none
   | none => none
 | _ => none
def fieldAddrA (P : Program) (s : TypeId) (b off f : Nat) : Option AV :=
 match runPure P (underlying s) with
 | some (.struct fields) =>
   match fields[f]? with
   | some fd =>
     match runPure P (sizeOf fd.type) with
     | some (_ + 1) => some (.ptr b (off + fd.offset))
     | _ => none
   | none => none
 | _ => none
def indexAddrA (P : Program) (t : TypeId) (x i : AV) : Option AV :=
 match natA i with
 | some k =>
   match runPure P (underlying t), x with
   | some (.array len e), .ptr b off =>
     if Nat.blt k len then match runPure P (sizeOf e) with | some sz => some (.ptr b (off + k * sz)) | none => none else none
   | some (.slice e), .slc b off len _ =>
     if Nat.blt k len then match runPure P (sizeOf e) with | some sz => some (.ptr b (off + k * sz)) | none => none else none
   | some (.slice e), .slu b off len _ =>
     if Nat.blt k len then match runPure P (sizeOf e) with | some sz => some (.ptr b (off + k * sz)) | none => none else none
   | _, _ => none
 | none => none
noncomputable def boundA (T : List AV) : Option Operand → Option (Option Nat)
 | none => some none
 | some x => (natA (av T x)).map some
noncomputable def sliceA (P : Program) (T : List AV) (t : TypeId) (x : AV) (lo hi mx : Option Operand) (H : AH) : Option AV :=
 match boundA T lo, boundA T hi, boundA T mx with
 | some l, some h, some m =>
   match runPure P (underlying t), x with
   | some (.slice e), .slc b off len cap =>
     match runPure P (sizeOf e) with
     | some sz =>
       let m' := m.getD cap
       let h' := h.getD len
       let l' := l.getD 0
       if Nat.ble m' cap && Nat.ble h' m' && Nat.ble l' h' && (m.isNone || h.isSome) then some (.slc b (if Nat.beq m' l' then off else off + l' * sz) (h' - l') (m' - l')) else none
     | none => none
   | some (.slice e), .slu b off len sz' =>
     match runPure P (sizeOf e), m, H.get b with
     | some (sz + 1), none, some (.cells cs _ _) =>
       let h' := h.getD len
       let l' := l.getD 0
       if Nat.beq sz' (sz + 1) && Nat.ble (off + h' * (sz + 1)) cs.length && Nat.ble l' h' && (Nat.beq l' 0 || Nat.blt l' h') then some (.slu b (off + l' * (sz + 1)) (h' - l') (sz + 1))
       else if Nat.beq sz' (sz + 1) && Nat.ble (off + h' * (sz + 1)) cs.length && Nat.beq l' h' then some (.sle b off l' (sz + 1)) else none
     | _, _, _ => none
   | some (.array n e), .ptr b off =>
     match runPure P (sizeOf e) with
     | some sz =>
       let m' := m.getD n
       let h' := h.getD n
       let l' := l.getD 0
       if Nat.ble m' n && Nat.ble h' m' && Nat.ble l' h' && (m.isNone || h.isSome) then some (.slc b (if Nat.beq m' l' then off else off + l' * sz) (h' - l') (m' - l')) else none
     | none => none
   | _, _ => none
 | _, _, _ => none
def fieldA (P : Program) (t : TypeId) (cs : List AV) (f : Nat) : Option AV :=
 match runPure P (underlying t) with
 | some (.struct fields) =>
   match fields[f]? with
   | some fd =>
     match runPure P (isAgg fd.type) with
     | some true => match runPure P (sizeOf fd.type) with | some n => some (.agg ((cs.drop fd.offset).take n)) | none => none
     | some false => cs[fd.offset]?
     | none => none
   | none => none
 | _ => none
def fillA (place : Nat → Option (Nat × Nat)) (cells : List AV) : List (Nat × AV) → Option (List AV)
 | [] => some cells
 | (i, x) :: rest =>
   match place i with
   | none => none
   | some (off, size) => if Nat.beq x.cells.length size && Nat.ble (off + x.cells.length) cells.length then fillA place (wr cells off x.cells) rest else none
noncomputable def buildA (P : Program) (T : List AV) (t : TypeId) (parts : Array (Nat × Operand)) : Option AV :=
 match runPure P (zeroValue t) with
 | some z =>
   match runPure P (underlying t) with
   | some (.struct fields) =>
     match runPure P (fields.mapM fun f => do pure (f.offset, ← sizeOf f.type)) with
     | some places => (fillA (places[·]?) (z.cells.toList.map .v) (parts.toList.map fun p => (p.1, av T p.2))).map .agg
     | none => none
   | some (.array _ e) =>
     match runPure P (sizeOf e) with
     | some size => (fillA (fun i => some (i * size, size)) (z.cells.toList.map .v) (parts.toList.map fun p => (p.1, av T p.2))).map .agg
     | none => none
   | _ => none
 | none => none
noncomputable def buildSliceA (P : Program) (T : List AV) (t : TypeId) (len : Nat) (parts : Array (Nat × Operand)) (H : AH) : Option RO :=
 match runPure P (underlying t) with
 | some (.slice e) =>
   match runPure P (sizeOf e), runPure P (zeroValue e) with
   | some (size + 1), some z =>
     if Nat.ble (len * (size + 1)) (2 ^ 24) then
       match fillA (fun i => some (i * (size + 1), size + 1)) (((Array.range (len * (size + 1))).map (z.cells[· % z.cells.size]!)).toList.map .v) (parts.toList.map fun p => (p.1, av T p.2)) with
       | some cs => (newA e cs H).map fun H' => .val (.slc H.next 0 len len) H'
       | none => none
     else none
   | _, _ => none
 | _ => none
noncomputable def makeSliceA (P : Program) (t : TypeId) (l c : AV) (H : AH) : Option RO :=
 match natA l, natA c with
 | some l, some c =>
   match runPure P (underlying t) with
   | some (.slice e) =>
     match runPure P (typeInfo e), runPure P (sizeOf e), runPure P (zeroValue e) with
     | some i, some size, some z =>
       if Nat.ble (i.bytes * c) (2 ^ 48) && Nat.ble l c && Nat.ble c (2 ^ 62) && !Nat.beq (c * size) 0 then
         (newA e (((Array.range (c * size)).map (z.cells[· % z.cells.size]!)).toList.map .v) H).map fun H' => .val (.slc H.next 0 l c) H'
       else if Nat.ble (i.bytes * c) (2 ^ 48) && Nat.ble l c && Nat.ble c (2 ^ 62) then (newA e [] H).map fun H' => .val (.slc H.next 0 l c) H'
       else none
     | _, _, _ => none
   | _ => none
 | _, _ => none
noncomputable def firstA (size n : Nat) (x : AV) (H : AH) : Option (List AV) :=
 match x with
 | .slc b off _ _ => match H.get b with | some (.cells cs _ _) => if Nat.ble (off + n * size) cs.length then some ((cs.drop off).take (n * size)) else none | _ => none
 | .slu b off _ _ => match H.get b with | some (.cells cs _ _) => if Nat.ble (off + n * size) cs.length then some ((cs.drop off).take (n * size)) else none | _ => none
 | .v (.slice none _ _) => some []
 | .v (.slice (some a) _ _) =>
   match Nat.beq n 0 with
   | true => some []
   | false =>
     match a with
     | ⟨g, off, none⟩ => match H.gl g with | some vs => if Nat.ble (off + n * size) vs.length then some (((vs.drop off).take (n * size)).map .v) else none | none => none
     | _ => none
 | .sle _ _ _ _ => if Nat.beq n 0 then some [] else none
 | .v (.string s) => some ((s.extract 0 n).data.toList.map fun b => .v (.int .u8 b.toNat))
 | _ => none
def lenA : AV → Option Nat
 | .slc _ _ len _ => some len
 | .slu _ _ len _ => some len
 | .sle _ _ _ _ => some 0
 | .v (.slice _ n _) => some n
 | .v (.string s) => some s.size
 | _ => none
noncomputable def newU (g : Nat) (elem : TypeId) (cs : List AV) (H : AH) : Option AH := if Nat.blt H.next (2 ^ 59) then some (H.add (.cells cs elem g)) else none
def isIntD (d : TypeDesc) : Bool := d matches .int _
noncomputable def appendA (P : Program) (ts : Array TypeId) (s x : AV) (H : AH) : Option RO :=
 match ts[0]?, ts[1]? with
 | some t, some xt =>
   match runPure P (underlying t), runPure P (underlying xt) with
   | some (.slice e), some xd =>
     match isIntD xd with
     | true => none
     | false =>
     match runPure P (typeInfo e), runPure P (sizeOf e), runPure P (zeroValue e), lenA x with
     | some i, some (sz + 1), some z, some n =>
       if Nat.beq z.cells.size (sz + 1) then
       match firstA (sz + 1) n x H with
       | some new =>
         if new.all AV.one && Nat.beq new.length (n * (sz + 1)) then
         match s with
         | .v (.slice none sLen sCap) =>
           if Nat.beq sLen 0 && Nat.beq sCap 0 then
             if Nat.beq n 0 then some (.val s H)
             else if Nat.ble (n * i.bytes) (2 ^ 47) && Nat.ble n (2 ^ 47) then (newU (sz + 1) e new H).map fun H' => .val (.slu H.next 0 n (sz + 1)) H'
             else none
           else none
         | .slc b off len cap =>
           if Nat.ble (len + n) cap then (storeA b (off + len * (sz + 1)) new H).map (.val (.slc b off (len + n) cap))
           else
             match H.get b with
             | some (.cells cs _ _) =>
               if Nat.ble ((len + n) * i.bytes) (2 ^ 47) && Nat.ble (len + n) (2 ^ 47) && Nat.ble (off + len * (sz + 1)) cs.length then
                 (newU (sz + 1) e ((cs.drop off).take (len * (sz + 1)) ++ new) H).map fun H' => .val (.slu H.next 0 (len + n) (sz + 1)) H'
               else none
             | _ => none
         | .slu b off len sz' =>
           match H.get b with
           | some (.cells cs e' (g + 1)) =>
             if Nat.beq off 0 && Nat.beq sz' (sz + 1) && Nat.beq cs.length (len * (sz + 1)) && Nat.ble ((len + n) * i.bytes) (2 ^ 47) && Nat.ble (len + n) (2 ^ 47) && Nat.beq e e' && Nat.beq g sz then
               (newU (sz + 1) e (cs ++ new) (H.set b none)).map fun H' => .val (.slu H.next 0 (len + n) (sz + 1)) H'
             else none
           | _ => none
         | _ => none
         else none
       | none => none
       else none
     | _, _, _, _ => none
   | _, _ => none
 | _, _ => none
end Go.Ev
namespace Go.Ev
noncomputable def copyA (P : Program) (ts : Array TypeId) (d x : AV) (H : AH) : Option RO :=
 match ts[0]? with
 | some t =>
   match runPure P (underlying t) with
   | some (.slice e) =>
     match runPure P (sizeOf e), lenA x with
     | some size, some n0 =>
       match d with
       | .slc b off dLen _ =>
         match firstA size (Nat.min n0 dLen) x H with
         | some cs => (storeA b off cs H).map (.val (.v (goInt (Nat.min n0 dLen : Nat))))
         | none => none
       | .slu b off dLen _ =>
         match firstA size (Nat.min n0 dLen) x H with
         | some cs => (storeA b off cs H).map (.val (.v (goInt (Nat.min n0 dLen : Nat))))
         | none => none
       | _ => none
     | _, _ => none
   | _ => none
 | none => none
abbrev Fs := Tr Func
noncomputable def calleeA (T : List AV) (f : Operand) : Option (FuncId × List AV × List AV) :=
 match av T f with
 | .v (.func (.func g) fst cap) => some (g, fst.toList.map .v, cap.toList.map .v)
 | .fn (.func g) fst cap => some (g, fst, cap)
 | _ => none
noncomputable def callA (F : Fs) (T : List AV) (f : Operand) (args : Array Operand) : Option RO :=
 match calleeA T f with
 | some (g, fst, cap) =>
   match F.get g with
   | some _ => some (.call g (fst ++ args.toList.map (av T) ++ cap))
   | none => none
 | none => none
noncomputable def lenOpA (P : Program) (ts : Array TypeId) (x : AV) (H : AH) : Option RO :=
 match ts[0]? with
 | some t =>
   match runPure P (underlying t), x with
   | some (.slice _), .slc _ _ n _ => some (.val (.v (goInt n)) H)
   | some (.slice _), .slu _ _ n _ => some (.val (.v (goInt n)) H)
   | some (.slice _), .sle _ _ _ _ => some (.val (.v (goInt 0)) H)
   | some .string, .v (.string s) => some (.val (.v (goInt s.size)) H)
   | some (.slice _), .v (.slice _ n _) => some (.val (.v (goInt n)) H)
   | some (.map _ _), .mp b => match H.get b with | some (.map es _) => some (.val (.v (goInt es.length)) H) | _ => none
   | _, _ => none
 | none => none
noncomputable def capOpA (P : Program) (ts : Array TypeId) (x : AV) (H : AH) : Option RO :=
 match ts[0]? with
 | some t =>
   match runPure P (underlying t), x with
   | some (.slice _), .slc _ _ _ n => some (.val (.v (goInt n)) H)
   | _, _ => none
 | none => none
noncomputable def rangeA (P : Program) (t : TypeId) (x : AV) (H : AH) : Option RO :=
 match runPure P (underlying t), x with
 | some .string, .v (.string s) => if Nat.blt H.next (2 ^ 59) then some (.val (.ptr H.next 0) (H.add (.iter s 0))) else none
 | _, _ => none
noncomputable def nextA (x : AV) (H : AH) : Option RO :=
 match x with
 | .ptr b 0 =>
   match H.get b with
   | some (.iter s pos) =>
     if pos < s.size then
       let (c, width) := Utf8.decode s pos
       some (.val (.v (.tuple #[.bool true, goInt pos, .int .i32 c])) (H.set b (some (.iter s (pos + width)))))
     else some (.val (.v (.tuple #[.bool false])) H)
   | _ => none
 | _ => none
noncomputable def makeMapA (H : AH) : Option RO := if Nat.blt H.next (2 ^ 59) then some (.val (.mp H.next) (H.add (.map [] 0))) else none
noncomputable def lookupA (P : Program) (t : TypeId) (b : Nat) (key : Value) (ok : Bool) (H : AH) : Option RO :=
 match runPure P (underlying t), H.get b with
 | some (.map kt et), some (.map es _) =>
   match runPure P (Instr.checkKey es.isEmpty 10000 kt key), runPure P (Instr.findKey kt key es), runPure P (zeroValue et) with
   | some (), some (some (_, v)), _ => some (.val (.v (if ok then .tuple #[v, .bool true] else v)) H)
   | some (), some none, some z => some (.val (.v (if ok then .tuple #[z, .bool false] else z)) H)
   | _, _, _ => none
 | _, _ => none
noncomputable def mapUpdateA (P : Program) (t : TypeId) (b : Nat) (key val : Value) (H : AH) : Option RO :=
 match runPure P (underlying t), H.get b with
 | some (.map kt _), some (.map es clock) =>
   match runPure P (Instr.checkKey false 10000 kt key), runPure P (Instr.findKey kt key es) with
   | some (), some (some (i, _)) =>
     match runPure P (Instr.keyThatStays (((es.toArray[i]?).map (·.key)).getD key) key) with
     | some k => some (.val (.v undef) (H.set b (some (.map (es.modify i fun e => { e with key := k, val := val }) clock))))
     | none => none
   | some (), some none => some (.val (.v undef) (H.set b (some (.map (es ++ [{ key, val := val, born := clock }]) (clock + 1)))))
   | _, _ => none
 | _, _ => none
noncomputable def mapEntryA (P : Program) (t : TypeId) (b : Nat) (key : Value) (H : AH) : Option RO :=
 match runPure P (underlying t), H.get b with
 | some (.map kt et), some (.map es clock) =>
   match runPure P (Instr.checkKey false 10000 kt key), runPure P (Instr.findKey kt key es) with
   | some (), some (some (i, v)) =>
     match runPure P (Instr.keyThatStays (((es.toArray[i]?).map (·.key)).getD key) key) with
     | some k => some (.val (.v (.tuple #[v, goInt (((es.toArray[i]?).map (·.born)).getD 0)])) (H.set b (some (.map (es.modify i fun e => { e with key := k }) clock))))
     | none => none
   | some (), some none =>
     match runPure P (zeroValue et) with
     | some zero => some (.val (.v (.tuple #[zero, goInt clock])) (H.set b (some (.map (es ++ [{ key, val := zero, born := clock }]) (clock + 1)))))
     | none => none
   | _, _ => none
 | _, _ => none
noncomputable def entryStoreA (b : Nat) (born : Int) (val : Value) (H : AH) : Option RO :=
 match H.get b with
 | some (.map es clock) =>
   match es.toArray.findIdx? (fun e => (e.born : Int) == born) with
   | some i => some (.val (.v undef) (H.set b (some (.map (es.modify i fun e => { e with val := val }) clock))))
   | none => none
 | _ => none
def nilEqA (P : Program) (t : TypeId) (x y : AV) : Bool :=
 match runPure P (underlying t), x, y with
 | some (.slice _), .slc _ _ _ _, .v (.slice none _ _) => true
 | some (.slice _), .slu _ _ _ _, .v (.slice none _ _) => true
 | some (.pointer _), .ptr _ _, .v (.pointer none) => true
 | some (.map _ _), .mp _, .v (.map none) => true
 | _, _, _ => false
def bytesA : List AV → Option (List Int)
 | [] => some []
 | .v (.int .u8 n) :: l => (bytesA l).map (n :: ·)
 | _ => none
noncomputable def convertA (P : Program) (src dst : TypeId) (x : AV) (H : AH) : Option RO :=
 match runPure P (underlying src), runPure P (underlying dst), x with
 | some .string, some (.slice e), .v (.string s) =>
   match runPure P (underlying e) with
   | some (.int .u8) => if Nat.ble s.size (2 ^ 40) then (newU 1 e (s.data.toList.map fun b => .v (.int .u8 b.toNat)) H).map fun H' => .val (.slu H.next 0 s.size 1) H' else none
   | _ => none
 | some (.slice e), some .string, .slc b off len cap =>
   match runPure P (underlying e), firstA 1 len (.slc b off len cap) H with
   | some (.int .u8), some cs => (bytesA cs).map fun ns => .val (.v (.string (ns.foldl (fun r n => r.push (UInt8.ofNat n.toNat)) ByteArray.empty))) H
   | _, _ => none
 | some (.slice e), some .string, .slu b off len sz =>
   match runPure P (underlying e), firstA 1 len (.slu b off len sz) H with
   | some (.int .u8), some cs => (bytesA cs).map fun ns => .val (.v (.string (ns.foldl (fun r n => r.push (UInt8.ofNat n.toNat)) ByteArray.empty))) H
   | _, _ => none
 | _, _, _ => none
def isV : AV → Bool | .v _ => true | _ => false
def binI (op : BinOp) (k j : IntKind) (a b : Int) : Option Value :=
 match decide (k = j) with
 | false => none
 | true =>
   match op with
   | .add => some (.int k (k.wrap (a + b)))
   | .sub => some (.int k (k.wrap (a - b)))
   | .mul => some (.int k (k.wrap (a * b)))
   | .eql => some (.bool (a == b))
   | .neq => some (.bool (a != b))
   | .lss => some (.bool (decide (a < b)))
   | .leq => some (.bool (decide (a ≤ b)))
   | .gtr => some (.bool (decide (a > b)))
   | .geq => some (.bool (decide (a ≥ b)))
   | _ => none
def rv (H : AH) : Option AV → Option RO
 | some r => some (.val r H)
 | none => none
noncomputable def oPick (T : List AV) (H : AH) (c a b : Operand) : Option RO :=
 match av T c with
 | .v (.bool true) => some (.val (av T a) H)
 | .v (.bool false) => some (.val (av T b) H)
 | _ => none
noncomputable def oLoad (P : Program) (H : AH) (t : TypeId) (x : AV) : Option RO :=
 match x with
 | .ptr b off => rv H (loadA P t b off H)
 | .v (.pointer (some ⟨g, off, none⟩)) => rv H (loadG P t g off H)
 | _ => none
noncomputable def oNil (P : Program) (T : List AV) (H : AH) (o : Oper) (x : AV) : Option RO :=
 match x with | .ptr b off => some (.val (.ptr b off) H) | _ => plainOp P T H o
noncomputable def oFieldAddr (P : Program) (T : List AV) (H : AH) (o : Oper) (s : TypeId) (x : AV) (f : Nat) : Option RO :=
 match x with | .ptr b off => rv H (fieldAddrA P s b off f) | _ => plainOp P T H o
noncomputable def oIndexAddr (P : Program) (T : List AV) (H : AH) (o : Oper) (t : TypeId) (x i : AV) : Option RO :=
 match isV x with | true => plainOp P T H o | false => rv H (indexAddrA P t x i)
noncomputable def oSlice (P : Program) (T : List AV) (H : AH) (o : Oper) (t : TypeId) (x : AV) (lo hi mx : Option Operand) : Option RO :=
 match isV x with | true => plainOp P T H o | false => rv H (sliceA P T t x lo hi mx H)
noncomputable def oField (P : Program) (T : List AV) (H : AH) (o : Oper) (t : TypeId) (x : AV) (f : Nat) : Option RO :=
 match x with | .agg cs => rv H (fieldA P t cs f) | _ => plainOp P T H o
noncomputable def oExtract (P : Program) (T : List AV) (H : AH) (o : Oper) (x : AV) (i : Nat) : Option RO :=
 match x with | .tup vs => rv H (vs[i]?) | .v (.tuple vs) => rv H ((vs[i]?).map .v) | _ => plainOp P T H o
noncomputable def oMakeFunc (T : List AV) (H : AH) (f : Fn) (a b : Array Operand) : Option RO := some (.val (.fn f (a.toList.map (av T)) (b.toList.map (av T))) H)
noncomputable def oMakeMap (P : Program) (T : List AV) (H : AH) (o : Oper) : Option Operand → Option RO
 | none => makeMapA H
 | some _ => plainOp P T H o
noncomputable def oLookup (P : Program) (T : List AV) (H : AH) (o : Oper) (t : TypeId) (x k : AV) (ok : Bool) : Option RO :=
 match x, k.plain with | .mp b, some key => lookupA P t b key ok H | _, _ => plainOp P T H o
noncomputable def oMapUpdate (P : Program) (H : AH) (t : TypeId) (m k x : AV) : Option RO :=
 match m, k.plain, x.plain with | .mp b, some key, some val => mapUpdateA P t b key val H | _, _, _ => none
noncomputable def oMapEntry (P : Program) (H : AH) (t : TypeId) (m k : AV) : Option RO :=
 match m, k.plain with | .mp b, some key => mapEntryA P t b key H | _, _ => none
noncomputable def oEntryStore (H : AH) (m s x : AV) : Option RO :=
 match m, s, x.plain with | .mp b, .v (.int _ n), some val => entryStoreA b n val H | _, _, _ => none
noncomputable def oConvert (P : Program) (T : List AV) (H : AH) (o : Oper) (s d : TypeId) (x : AV) : Option RO :=
 match convertA P s d x H with | some r => some r | none => plainOp P T H o
noncomputable def oNext (P : Program) (T : List AV) (H : AH) (o : Oper) (x : AV) : Bool → Option RO
 | true => nextA x H
 | false => plainOp P T H o
noncomputable def oBinSlow (P : Program) (T : List AV) (H : AH) (o : Oper) (op : BinOp) (t : TypeId) (x y : AV) : Option RO :=
 match op with
 | .eql => match nilEqA P t x y with | true => some (.val (.v (.bool false)) H) | false => plainOp P T H o
 | .neq => match nilEqA P t x y with | true => some (.val (.v (.bool true)) H) | false => plainOp P T H o
 | _ => plainOp P T H o
noncomputable def oBin (P : Program) (T : List AV) (H : AH) (o : Oper) (op : BinOp) (t : TypeId) (x y : AV) : Option RO :=
 match x, y with
 | .v (.int k a), .v (.int j b) => match binI op k j a b with | some v => some (.val (.v v) H) | none => plainOp P T H o
 | _, _ => oBinSlow P T H o op t x y
noncomputable def oLen (P : Program) (T : List AV) (H : AH) (o : Oper) (ts : Array TypeId) (x : AV) : Option RO :=
 match lenOpA P ts x H with | some r => some r | none => plainOp P T H o
noncomputable def oCap (P : Program) (T : List AV) (H : AH) (o : Oper) (ts : Array TypeId) (x : AV) : Option RO :=
 match isV x with | true => plainOp P T H o | false => capOpA P ts x H
noncomputable def oBuiltin (P : Program) (T : List AV) (H : AH) (o : Oper) (b : Go.Builtin) (ts : Array TypeId) (args : List Operand) : Option RO :=
 match b with
 | .append => match args with | [s, x] => appendA P ts (av T s) (av T x) H | _ => none
 | .copy => match args with | [s, x] => copyA P ts (av T s) (av T x) H | _ => none
 | .len => match args with | [x] => oLen P T H o ts (av T x) | _ => none
 | .cap => match args with | [x] => oCap P T H o ts (av T x) | _ => none
 | _ => plainOp P T H o
noncomputable def oCallV (P : Program) (F : Fs) (T : List AV) (H : AH) (o : Oper) (f : Operand) (args : Array Operand) : Option RO :=
 match callA F T f args with | some r => some r | none => plainOp P T H o
noncomputable def oMkIface (P : Program) (T : List AV) (H : AH) (o : Oper) (t : TypeId) (x : AV) : Option RO :=
 match isV x with
 | true => plainOp P T H o
 | false => match runPure P (underlying t) with | some (.interface _) => none | some _ => some (.val (.ifc t x) H) | none => none
noncomputable def methA (P : Program) (t : TypeId) (name : String) : Option FuncId :=
 match runPure P (typeInfo t) with
 | some i =>
   match i.methods.find? (·.name == name) with
   | some m =>
     match m.path.toList, m.func, runPure P (underlying t) with
     | [], some (f, true), some (.pointer _) => some f
     | [], some (_, false), some (.pointer _) => none
     | [], some (f, false), some _ => some f
     | _, _, _ => none
   | none => none
 | none => none
noncomputable def oInvoke (P : Program) (F : Fs) (T : List AV) (H : AH) (o : Oper) (r : Operand) (name : String) (args : Array Operand) : Option RO :=
 match av T r with
 | .ifc t x => match methA P t name with | some f => (match F.get f with | some _ => some (.call f (x :: args.toList.map (av T))) | none => none) | none => none
 | _ => plainOp P T H o
noncomputable def oCall (P : Program) (F : Fs) (T : List AV) (H : AH) (o : Oper) (c : Call) : Option RO :=
 match c.callee with
 | .builtin b => oBuiltin P T H o b c.argTypes c.args.toList
 | .value f => oCallV P F T H o f c.args
 | .invoke r name => oInvoke P F T H o r name c.args
noncomputable def opEval (P : Program) (F : Fs) (T : List AV) (H : AH) (o : Oper) : Option RO :=
 match o.op with
 | .move x => some (.val (av T x) H)
 | .assign x => some (.val (av T x) H)
 | .pick c a b => oPick T H c a b
 | .alloc t => allocA P t H
 | .box t x => boxA t (av T x) H
 | .load t x => oLoad P H t (av T x)
 | .store t p x => storeOpA P t (av T p) (av T x) H
 | .nilCheck x => oNil P T H o (av T x)
 | .fieldAddr s x f => oFieldAddr P T H o s (av T x) f
 | .indexAddr t x i => oIndexAddr P T H o t (av T x) (av T i)
 | .slice t x lo hi mx => oSlice P T H o t (av T x) lo hi mx
 | .field t x f => oField P T H o t (av T x) f
 | .extract x i => oExtract P T H o (av T x) i
 | .build t ps => rv H (buildA P T t ps)
 | .buildSlice t n ps => buildSliceA P T t n ps H
 | .makeSlice t l c => makeSliceA P t (av T l) (av T c) H
 | .makeFunc f a b => oMakeFunc T H f a b
 | .makeInterface t x => oMkIface P T H o t (av T x)
 | .makeMap _ x => oMakeMap P T H o x
 | .lookup t x k ok => oLookup P T H o t (av T x) (av T k) ok
 | .mapUpdate t m k x => oMapUpdate P H t (av T m) (av T k) (av T x)
 | .insert t m k x => oMapUpdate P H t (av T m) (av T k) (av T x)
 | .mapEntry t m k => oMapEntry P H t (av T m) (av T k)
 | .entryStore _ m s x => oEntryStore H (av T m) (av T s) (av T x)
 | .convert s d x => oConvert P T H o s d (av T x)
 | .range t x => rangeA P t (av T x) H
 | .next x s => oNext P T H o (av T x) s
 | .binOp op t x y _ => oBin P T H o op t (av T x) (av T y)
 | .call c => oCall P F T H o c
 | _ => plainOp P T H o
end Go.Ev
