/- Part of an evaluator of calls that is proved sound, and of what it gives about this program. No condition of its own. -/
import Derived.Test.YthiodbpknjfnkaaGreatDoorEvHd
set_option linter.unusedVariables false
set_option linter.unusedSimpArgs false
set_option maxRecDepth 100000
set_option maxHeartbeats 4000000
namespace Go.Ev
open Go.Proofs

section
variable {O : CallF} {g : FuncId} {rd : Bool} {T : List AV} {M : List Nat} {H : AH} {Q : QX} {ops : Array Oper} {o : Oper} {K : AV → AH → Prop}

theorem o_build2 {t e : TypeId} {x y : Operand} {z0 : Value} (ho : o.op = .buildSlice t 2 #[(0, x), (1, y)]) (hg : wantedA o ops T = true) [hu : TyS t e] [hs : Cell e] [hz : Zero e z0] (h1 : (av T x).one = true) (h2 : (av T y).one = true) (hr : H.next < 2 ^ 39)
    (hk : K (.slc H.next 0 2 2) (H.add (.cells [av T x, av T y] e 0))) : WOp (ENV O) ops o T H K := by
  refine wop_val (by rw [ho]; rfl) hg (r := .slc H.next 0 2 2) (H' := H.add (.cells [av T x, av T y] e 0)) ?_ (Nat.le_succ _) hk
  have hlt : Nat.blt H.next (2 ^ 39) = true := Nat.ble_eq_true_of_le hr
  unfold opEval; rw [ho]
  simp only [ENV, buildSliceA, hu.u, hs.s, hz.z, hz.c]
  rw [if_pos (by decide)]
  simp [fillA, cells_one h1, cells_one h2, wr, newA, hlt]
  rw [List.drop_eq_nil_of_le (by simp)]

theorem o_build3 {t e : TypeId} {x y u : Operand} {z0 : Value} (ho : o.op = .buildSlice t 3 #[(0, x), (1, y), (2, u)]) (hg : wantedA o ops T = true) [hu : TyS t e] [hs : Cell e] [hz : Zero e z0] (h1 : (av T x).one = true) (h2 : (av T y).one = true) (h3 : (av T u).one = true) (hr : H.next < 2 ^ 39)
    (hk : K (.slc H.next 0 3 3) (H.add (.cells [av T x, av T y, av T u] e 0))) : WOp (ENV O) ops o T H K := by
  refine wop_val (by rw [ho]; rfl) hg (r := .slc H.next 0 3 3) (H' := H.add (.cells [av T x, av T y, av T u] e 0)) ?_ (Nat.le_succ _) hk
  have hlt : Nat.blt H.next (2 ^ 39) = true := Nat.ble_eq_true_of_le hr
  unfold opEval; rw [ho]
  simp only [ENV, buildSliceA, hu.u, hs.s, hz.z, hz.c]
  rw [if_pos (by decide)]
  simp [fillA, cells_one h1, cells_one h2, cells_one h3, wr, newA, hlt]
  rw [List.drop_eq_nil_of_le (by simp)]

end

/-- A new block of cells, as a slice. -/
theorem sl_new {H : AH} {cs : List AV} {e : TypeId} (hr : H.next < 2 ^ 39) (n : Nat) : Sl (H.add (.cells cs e 0)) (.slc H.next 0 cs.length n) cs :=
  ⟨rfl, hr, cs, e, 0, by rw [AH.get_add _ _ _ hr, if_pos rfl], fun j v h => by rw [Nat.zero_add]; exact h⟩

theorem sl_cells {H : AH} {b n cap : Nat} {cs l : List AV} {e : TypeId} {g : Nat} (h39 : b < 2 ^ 39) (hg : H.get b = some (.cells cs e g)) (hn : n = l.length) (h : ∀ (j : Nat) (v : AV), l[j]? = some v → cs[j]? = some v) : Sl H (.slc b 0 n cap) l :=
  ⟨hn, h39, cs, e, g, hg, fun j v hv => by rw [Nat.zero_add]; exact h j v hv⟩

theorem keeps_append {H0 H H1 : AH} {s : AV} (h : Keeps H0 H) (hn : H1.next = H.next + 1) (hgl : H1.gl = H.gl) (hb : ∀ b, b ≠ H.next → s.own ≠ some b → H1.get b = H.get b) (hs : ∀ b, s.own = some b → H0.next ≤ b) : Keeps H0 H1 :=
  ⟨by have := h.nx; omega, hgl.trans h.gl, fun b hlt => (hb b (by have := h.nx; omega) (fun e => by have := hs b e; omega)).trans (h.get b hlt)⟩

/-- First l, then m. -/
def compL (l m : List Int) : List Int := l.map fun i => m.getD i.toNat 0

open Classical in
/-- What Compose returns. -/
noncomputable def compS (l m : List Int) : List Int × Int := if firstNZ [permE l, permE m] ≠ 0 then ([], firstNZ [permE l, permE m]) else if l.length ≠ m.length then ([], 2) else (compL l m, 0)

theorem permE_zero {l : List Int} (h : permE l = 0) : l.length ≤ 256 ∧ OkP l := by
  unfold permE at h
  split at h
  · cases h
  · split at h
    · rename_i h1 h2; exact ⟨by omega, h2⟩
    · cases h

theorem firstNZ2 {a b : Int} (h : firstNZ [a, b] = 0) : a = 0 ∧ b = 0 := by
  simp only [firstNZ] at h
  by_cases ha : a = 0
  · rw [if_pos ha] at h
    by_cases hb : b = 0
    · exact ⟨ha, hb⟩
    · rw [if_neg hb] at h; exact absurd h hb
  · rw [if_neg ha] at h; exact absurd h ha

/-- l read backwards. -/
def invL (l : List Int) : List Int := (rangeI l.length).map fun x => (l.idxOf x : Int)

theorem compL_get {l m : List Int} {i : Nat} {z y : Int} (hz : l[i]? = some z) (hy : m[z.toNat]? = some y) : (compL l m)[i]? = some y := by
  simp [compL, hz, List.getD, hy]

variable {O : CallF} (hq : Quiet O)
include hq

theorem c13 (H : AH) (x y : AV) (l m : List Int) (hx : Sl H x (ivs l)) (ho : Old H x) (hy : Sl H y (ivs m)) (ho2 : Old H y) (hr : H.next + 4 < 2 ^ 39) (K : AV → AH → Prop)
    (hk : ∀ H' c, Keeps H H' → H'.next ≤ H.next + 4 → Sl H' c (ivs (compS l m).1) → Old H' c → K (.tup [c, iv (compS l m).2]) H') : Ca (ENV O) 8 [x, y] H K := by
  refine ca_intro (hq _ _ _ rfl) (fn := Tryz.f8) (by rfl) rfl ?_
  repeat (first | refine wops_nil ?_ | refine wops_cons (wop_skip' rfl rfl ?_) | refine wops_cons (wop_move rfl rfl ?_) | refine wops_cons (wop_assign rfl rfl ?_) | refine wops_cons (wop_bin (op := .add) rfl rfl rfl rfl (inc (by omega)) ?_) | refine wops_cons (o_lenI rfl rfl rfl rfl rfl (by assumption) ?_) | refine wops_cons (o_load rfl rfl (by assumption) ?_) | refine wops_cons (wop_pick rfl rfl rfl ?_) | refine wops_cons (wop_not rfl rfl rfl ?_) | refine wops_cons (wop_extract rfl rfl rfl rfl ?_) | refine mobs_move rfl rfl rfl ?_ | refine m_load rfl rfl rfl (by assumption) ?_ | refine mobs_nil ?_ | refine wd_nil ?_ | refine wd_skip rfl rfl ?_ | refine wd_loudSkip rfl rfl ?_ | refine wd_move rfl rfl rfl ?_ | refine wd_assign rfl rfl rfl ?_ | refine wd_pick rfl rfl rfl rfl ?_ | refine d_load rfl rfl rfl (by assumption) ?_ | refine d_lenI rfl rfl rfl rfl rfl rfl (by assumption) ?_ | refine wp_condT rfl ?_ | refine wp_condF rfl ?_ | refine wp_region ?_ | refine wp_seq ?_ | refine wp_skip ?_ | refine wp_exit ?_ | refine wp_block ?_)
  refine wops_cons (wop_callF rfl rfl rfl (fn := Tryz.f18) (by rfl) ?_)
  refine c12 hq H x l hx ho (by omega) _ fun H1 k1 n1 => ⟨k1.nx, ?_⟩
  repeat (first | refine wops_nil ?_ | refine wops_cons (wop_skip' rfl rfl ?_) | refine wops_cons (wop_move rfl rfl ?_) | refine wops_cons (wop_assign rfl rfl ?_) | refine wops_cons (wop_bin (op := .add) rfl rfl rfl rfl (inc (by omega)) ?_) | refine wops_cons (o_lenI rfl rfl rfl rfl rfl (by assumption) ?_) | refine wops_cons (o_load rfl rfl (by assumption) ?_) | refine wops_cons (wop_pick rfl rfl rfl ?_) | refine wops_cons (wop_not rfl rfl rfl ?_) | refine wops_cons (wop_extract rfl rfl rfl rfl ?_) | refine mobs_move rfl rfl rfl ?_ | refine m_load rfl rfl rfl (by assumption) ?_ | refine mobs_nil ?_ | refine wd_nil ?_ | refine wd_skip rfl rfl ?_ | refine wd_loudSkip rfl rfl ?_ | refine wd_move rfl rfl rfl ?_ | refine wd_assign rfl rfl rfl ?_ | refine wd_pick rfl rfl rfl rfl ?_ | refine d_load rfl rfl rfl (by assumption) ?_ | refine d_lenI rfl rfl rfl rfl rfl rfl (by assumption) ?_ | refine wp_condT rfl ?_ | refine wp_condF rfl ?_ | refine wp_region ?_ | refine wp_seq ?_ | refine wp_skip ?_ | refine wp_exit ?_ | refine wp_block ?_)
  refine wops_cons (wop_callF rfl rfl rfl (fn := Tryz.f18) (by rfl) ?_)
  refine c12 hq H1 y m (hy.keep ho2 k1) (ho2.keep k1) (by omega) _ fun H2 k2 n2 => ⟨k2.nx, ?_⟩
  have k2 := k1.trans k2
  refine wops_cons (o_build2 rfl rfl rfl rfl (by omega) ?_)
  have k3 := k2.add (.cells [iv (permE l), iv (permE m)] 26 0) (by omega)
  have hs3 := sl_new (H := H2) (cs := ivs [permE l, permE m]) (e := 26) (by omega) 2
  refine wops_cons (wop_callF rfl rfl rfl (fn := Tryz.f24) (by rfl) ?_)
  refine c50 hq (H2.add (.cells [iv (permE l), iv (permE m)] 26 0)) _ [permE l, permE m] hs3 (by show 2 ≤ 1000; decide) _ ⟨Nat.le_refl _, ?_⟩
  have n3 : (H2.add (.cells [iv (permE l), iv (permE m)] 26 0)).next = H2.next + 1 := rfl
  clear hs3
  generalize H2.add (.cells [iv (permE l), iv (permE m)] 26 0) = H3 at k3 n3 ⊢
  have hx3 := hx.keep ho k3
  have hy3 := hy.keep ho2 k3
  repeat (first | refine wops_nil ?_ | refine wops_cons (wop_skip' rfl rfl ?_) | refine wops_cons (wop_move rfl rfl ?_) | refine wops_cons (wop_assign rfl rfl ?_) | refine wops_cons (wop_bin (op := .add) rfl rfl rfl rfl (inc (by omega)) ?_) | refine wops_cons (o_lenI rfl rfl rfl rfl rfl (by assumption) ?_) | refine wops_cons (o_load rfl rfl (by assumption) ?_) | refine wops_cons (wop_pick rfl rfl rfl ?_) | refine wops_cons (wop_not rfl rfl rfl ?_) | refine wops_cons (wop_extract rfl rfl rfl rfl ?_) | refine mobs_move rfl rfl rfl ?_ | refine m_load rfl rfl rfl (by assumption) ?_ | refine mobs_nil ?_ | refine wd_nil ?_ | refine wd_skip rfl rfl ?_ | refine wd_loudSkip rfl rfl ?_ | refine wd_move rfl rfl rfl ?_ | refine wd_assign rfl rfl rfl ?_ | refine wd_pick rfl rfl rfl rfl ?_ | refine d_load rfl rfl rfl (by assumption) ?_ | refine d_lenI rfl rfl rfl rfl rfl rfl (by assumption) ?_ | refine wp_condT rfl ?_ | refine wp_condF rfl ?_ | refine wp_region ?_ | refine wp_seq ?_ | refine wp_skip ?_ | refine wp_exit ?_ | refine wp_block ?_)
  refine wops_cons (wop_cmp rfl rfl rfl rfl rfl (fun h => ?_) (fun h => ?_))
  · have he : firstNZ [permE l, permE m] ≠ 0 := by simpa using h
    repeat (first | refine wops_nil ?_ | refine wops_cons (wop_skip' rfl rfl ?_) | refine wops_cons (wop_move rfl rfl ?_) | refine wops_cons (wop_assign rfl rfl ?_) | refine wops_cons (wop_bin (op := .add) rfl rfl rfl rfl (inc (by omega)) ?_) | refine wops_cons (o_lenI rfl rfl rfl rfl rfl (by assumption) ?_) | refine wops_cons (o_load rfl rfl (by assumption) ?_) | refine wops_cons (wop_pick rfl rfl rfl ?_) | refine wops_cons (wop_not rfl rfl rfl ?_) | refine wops_cons (wop_extract rfl rfl rfl rfl ?_) | refine mobs_move rfl rfl rfl ?_ | refine m_load rfl rfl rfl (by assumption) ?_ | refine mobs_nil ?_ | refine wd_nil ?_ | refine wd_skip rfl rfl ?_ | refine wd_loudSkip rfl rfl ?_ | refine wd_move rfl rfl rfl ?_ | refine wd_assign rfl rfl rfl ?_ | refine wd_pick rfl rfl rfl rfl ?_ | refine d_load rfl rfl rfl (by assumption) ?_ | refine d_lenI rfl rfl rfl rfl rfl rfl (by assumption) ?_ | refine wp_condT rfl ?_ | refine wp_condF rfl ?_ | refine wp_region ?_ | refine wp_seq ?_ | refine wp_skip ?_ | refine wp_exit ?_ | refine wp_block ?_)
    refine wp_ret ?_
    refine ⟨_, _, rfl, ?_⟩
    have := hk H3 (.v (.slice none 0 0)) k3 (by omega) (by rw [compS, if_pos he]; exact ⟨rfl, .inl rfl⟩) (Old.v _)
    rw [compS, if_pos he] at this
    exact this
  have he : firstNZ [permE l, permE m] = 0 := by simpa using h
  obtain ⟨e1, e2⟩ := firstNZ2 he
  obtain ⟨hl, hokl⟩ := permE_zero e1
  obtain ⟨hm, hokm⟩ := permE_zero e2
  repeat (first | refine wops_nil ?_ | refine wops_cons (wop_skip' rfl rfl ?_) | refine wops_cons (wop_move rfl rfl ?_) | refine wops_cons (wop_assign rfl rfl ?_) | refine wops_cons (wop_bin (op := .add) rfl rfl rfl rfl (inc (by omega)) ?_) | refine wops_cons (o_lenI rfl rfl rfl rfl rfl (by assumption) ?_) | refine wops_cons (o_load rfl rfl (by assumption) ?_) | refine wops_cons (wop_pick rfl rfl rfl ?_) | refine wops_cons (wop_not rfl rfl rfl ?_) | refine wops_cons (wop_extract rfl rfl rfl rfl ?_) | refine mobs_move rfl rfl rfl ?_ | refine m_load rfl rfl rfl (by assumption) ?_ | refine mobs_nil ?_ | refine wd_nil ?_ | refine wd_skip rfl rfl ?_ | refine wd_loudSkip rfl rfl ?_ | refine wd_move rfl rfl rfl ?_ | refine wd_assign rfl rfl rfl ?_ | refine wd_pick rfl rfl rfl rfl ?_ | refine d_load rfl rfl rfl (by assumption) ?_ | refine d_lenI rfl rfl rfl rfl rfl rfl (by assumption) ?_ | refine wp_condT rfl ?_ | refine wp_condF rfl ?_ | refine wp_region ?_ | refine wp_seq ?_ | refine wp_skip ?_ | refine wp_exit ?_ | refine wp_block ?_)
  refine wops_cons (wop_cmp rfl rfl rfl rfl rfl (fun h => ?_) (fun h => ?_))
  · have hlm : l.length ≠ m.length := by
      have : (l.length : Int) ≠ m.length := by simpa using h
      omega
    repeat (first | refine wops_nil ?_ | refine wops_cons (wop_skip' rfl rfl ?_) | refine wops_cons (wop_move rfl rfl ?_) | refine wops_cons (wop_assign rfl rfl ?_) | refine wops_cons (wop_bin (op := .add) rfl rfl rfl rfl (inc (by omega)) ?_) | refine wops_cons (o_lenI rfl rfl rfl rfl rfl (by assumption) ?_) | refine wops_cons (o_load rfl rfl (by assumption) ?_) | refine wops_cons (wop_pick rfl rfl rfl ?_) | refine wops_cons (wop_not rfl rfl rfl ?_) | refine wops_cons (wop_extract rfl rfl rfl rfl ?_) | refine mobs_move rfl rfl rfl ?_ | refine m_load rfl rfl rfl (by assumption) ?_ | refine mobs_nil ?_ | refine wd_nil ?_ | refine wd_skip rfl rfl ?_ | refine wd_loudSkip rfl rfl ?_ | refine wd_move rfl rfl rfl ?_ | refine wd_assign rfl rfl rfl ?_ | refine wd_pick rfl rfl rfl rfl ?_ | refine d_load rfl rfl rfl (by assumption) ?_ | refine d_lenI rfl rfl rfl rfl rfl rfl (by assumption) ?_ | refine wp_condT rfl ?_ | refine wp_condF rfl ?_ | refine wp_region ?_ | refine wp_seq ?_ | refine wp_skip ?_ | refine wp_exit ?_ | refine wp_block ?_)
    refine wp_ret ?_
    refine ⟨_, _, rfl, ?_⟩
    have := hk H3 (.v (.slice none 0 0)) k3 (by omega) (by rw [compS, if_neg (by simp [he]), if_pos hlm]; exact ⟨rfl, .inl rfl⟩) (Old.v _)
    rw [compS, if_neg (by simp [he]), if_pos hlm] at this
    exact this
  have hlm : l.length = m.length := by
    have : (l.length : Int) = m.length := by simpa using h
    omega
  rw [show compS l m = (compL l m, 0) by rw [compS, if_neg (by simp [he]), if_neg (by simp [hlm])]] at hk
  repeat (first | refine wops_nil ?_ | refine wops_cons (wop_skip' rfl rfl ?_) | refine wops_cons (wop_move rfl rfl ?_) | refine wops_cons (wop_assign rfl rfl ?_) | refine wops_cons (wop_bin (op := .add) rfl rfl rfl rfl (inc (by omega)) ?_) | refine wops_cons (o_lenI rfl rfl rfl rfl rfl (by assumption) ?_) | refine wops_cons (o_load rfl rfl (by assumption) ?_) | refine wops_cons (wop_pick rfl rfl rfl ?_) | refine wops_cons (wop_not rfl rfl rfl ?_) | refine wops_cons (wop_extract rfl rfl rfl rfl ?_) | refine mobs_move rfl rfl rfl ?_ | refine m_load rfl rfl rfl (by assumption) ?_ | refine mobs_nil ?_ | refine wd_nil ?_ | refine wd_skip rfl rfl ?_ | refine wd_loudSkip rfl rfl ?_ | refine wd_move rfl rfl rfl ?_ | refine wd_assign rfl rfl rfl ?_ | refine wd_pick rfl rfl rfl rfl ?_ | refine d_load rfl rfl rfl (by assumption) ?_ | refine d_lenI rfl rfl rfl rfl rfl rfl (by assumption) ?_ | refine wp_condT rfl ?_ | refine wp_condF rfl ?_ | refine wp_region ?_ | refine wp_seq ?_ | refine wp_skip ?_ | refine wp_exit ?_ | refine wp_block ?_)
  refine wops_cons (o_make rfl rfl rfl rfl (by omega) (by omega) ?_)
  have k4 := k3.add (.cells (List.replicate l.length (iv 0)) 3 0) (by omega)
  have g4 : (H3.add (.cells (List.replicate l.length (iv 0)) 3 0)).get H3.next = some (.cells (List.replicate l.length (iv 0)) 3 0) := by rw [AH.get_add _ _ _ (by omega), if_pos rfl]
  have n4 : (H3.add (.cells (List.replicate l.length (iv 0)) 3 0)).next = H3.next + 1 := rfl
  have hb39 : H3.next < 2 ^ 39 := by omega
  have hb0 : H.next ≤ H3.next := k3.nx
  have hb3 : H3.next ≤ H.next + 3 := by omega
  have hxx := hx.keep ho k4
  have hyy := hy.keep ho2 k4
  generalize H3.add (.cells (List.replicate l.length (iv 0)) 3 0) = H4 at k4 g4 n4 hxx hyy ⊢
  generalize H3.next = b at g4 n4 hb39 hb0 hb3 ⊢
  repeat (first | refine wops_nil ?_ | refine wops_cons (wop_skip' rfl rfl ?_) | refine wops_cons (wop_move rfl rfl ?_) | refine wops_cons (wop_assign rfl rfl ?_) | refine wops_cons (wop_bin (op := .add) rfl rfl rfl rfl (inc (by omega)) ?_) | refine wops_cons (o_lenI rfl rfl rfl rfl rfl (by assumption) ?_) | refine wops_cons (o_load rfl rfl (by assumption) ?_) | refine wops_cons (wop_pick rfl rfl rfl ?_) | refine wops_cons (wop_not rfl rfl rfl ?_) | refine wops_cons (wop_extract rfl rfl rfl rfl ?_) | refine mobs_move rfl rfl rfl ?_ | refine m_load rfl rfl rfl (by assumption) ?_ | refine mobs_nil ?_ | refine wd_nil ?_ | refine wd_skip rfl rfl ?_ | refine wd_loudSkip rfl rfl ?_ | refine wd_move rfl rfl rfl ?_ | refine wd_assign rfl rfl rfl ?_ | refine wd_pick rfl rfl rfl rfl ?_ | refine d_load rfl rfl rfl (by assumption) ?_ | refine d_lenI rfl rfl rfl rfl rfl rfl (by assumption) ?_ | refine wp_condT rfl ?_ | refine wp_condF rfl ?_ | refine wp_region ?_ | refine wp_seq ?_ | refine wp_skip ?_ | refine wp_exit ?_ | refine wp_block ?_)
  refine wp_loop (fun k T M H' => ∃ (i : Nat) (Y : List AV) (cs : List AV), k = l.length - i ∧ i ≤ l.length ∧ Keeps H H' ∧ H'.next = b + 1 ∧ H'.get b = some (.cells cs 3 0) ∧ cs.length = l.length ∧ (∀ (j : Nat) (z : Int), j < i → (compL l m)[j]? = some z → cs[j]? = some (iv z)) ∧ M = [] ∧ T = (x :: y :: lget Y 0 :: lget Y 1 :: .v (.slice none 0 0) :: iv 0 :: lget Y 2 :: .slc b 0 l.length l.length :: lget Y 3 :: lget Y 4 :: lget Y 5 :: lget Y 6 :: lget Y 7 :: lget Y 8 :: lget Y 9 :: lget Y 10 :: lget Y 11 :: lget Y 12 :: lget Y 13 :: lget Y 14 :: lget Y 15 :: lget Y 16 :: lget Y 17 :: lget Y 18 :: lget Y 19 :: lget Y 20 :: lget Y 21 :: x :: iv l.length :: iv (i : Nat) :: lget Y 22 :: lget Y 23 :: lget Y 24 :: lget Y 25 :: lget Y 26 :: lget Y 27 :: lget Y 28 :: lget Y 29 :: lget Y 30 :: lget Y 31 :: lget Y 32 :: lget Y 33 :: lget Y 34 :: [])) l.length
    ⟨0, (_ :: _ :: _ :: _ :: _ :: _ :: _ :: _ :: _ :: _ :: _ :: _ :: _ :: _ :: _ :: _ :: _ :: _ :: _ :: _ :: _ :: _ :: _ :: _ :: _ :: _ :: _ :: _ :: _ :: _ :: _ :: _ :: _ :: _ :: _ :: []), _, rfl, Nat.zero_le _, k4, n4, g4, by simp, fun j z h => absurd h (by omega), rfl, rfl⟩ ?_
  rintro k T M H' ⟨i, Y, cs, hk1, hi, hK, hn, hgb, hcs, hcc, rfl, rfl⟩
  have hxx := hx.keep ho hK
  have hyy := hy.keep ho2 hK
  repeat (first | refine wops_nil ?_ | refine wops_cons (wop_skip' rfl rfl ?_) | refine wops_cons (wop_move rfl rfl ?_) | refine wops_cons (wop_assign rfl rfl ?_) | refine wops_cons (wop_bin (op := .add) rfl rfl rfl rfl (inc (by omega)) ?_) | refine wops_cons (o_lenI rfl rfl rfl rfl rfl (by assumption) ?_) | refine wops_cons (o_load rfl rfl (by assumption) ?_) | refine wops_cons (wop_pick rfl rfl rfl ?_) | refine wops_cons (wop_not rfl rfl rfl ?_) | refine wops_cons (wop_extract rfl rfl rfl rfl ?_) | refine mobs_move rfl rfl rfl ?_ | refine m_load rfl rfl rfl (by assumption) ?_ | refine mobs_nil ?_ | refine wd_nil ?_ | refine wd_skip rfl rfl ?_ | refine wd_loudSkip rfl rfl ?_ | refine wd_move rfl rfl rfl ?_ | refine wd_assign rfl rfl rfl ?_ | refine wd_pick rfl rfl rfl rfl ?_ | refine d_load rfl rfl rfl (by assumption) ?_ | refine d_lenI rfl rfl rfl rfl rfl rfl (by assumption) ?_ | refine wp_condT rfl ?_ | refine wp_condF rfl ?_ | refine wp_region ?_ | refine wp_seq ?_ | refine wp_skip ?_ | refine wp_exit ?_ | refine wp_block ?_)
  refine wops_cons (wop_cmp rfl rfl rfl rfl rfl (fun h => ?_) (fun h => ?_))
  rotate_left
  · have h : ¬ ((i : Int) < l.length) := of_decide_eq_false h
    have e : i = l.length := by omega
    subst e
    repeat (first | refine wops_nil ?_ | refine wops_cons (wop_skip' rfl rfl ?_) | refine wops_cons (wop_move rfl rfl ?_) | refine wops_cons (wop_assign rfl rfl ?_) | refine wops_cons (wop_bin (op := .add) rfl rfl rfl rfl (inc (by omega)) ?_) | refine wops_cons (o_lenI rfl rfl rfl rfl rfl (by assumption) ?_) | refine wops_cons (o_load rfl rfl (by assumption) ?_) | refine wops_cons (wop_pick rfl rfl rfl ?_) | refine wops_cons (wop_not rfl rfl rfl ?_) | refine wops_cons (wop_extract rfl rfl rfl rfl ?_) | refine mobs_move rfl rfl rfl ?_ | refine m_load rfl rfl rfl (by assumption) ?_ | refine mobs_nil ?_ | refine wd_nil ?_ | refine wd_skip rfl rfl ?_ | refine wd_loudSkip rfl rfl ?_ | refine wd_move rfl rfl rfl ?_ | refine wd_assign rfl rfl rfl ?_ | refine wd_pick rfl rfl rfl rfl ?_ | refine d_load rfl rfl rfl (by assumption) ?_ | refine d_lenI rfl rfl rfl rfl rfl rfl (by assumption) ?_ | refine wp_condT rfl ?_ | refine wp_condF rfl ?_ | refine wp_region ?_ | refine wp_seq ?_ | refine wp_skip ?_ | refine wp_exit ?_ | refine wp_block ?_)
    refine wp_ret ?_
    refine ⟨_, _, rfl, ?_⟩
    have hcl : (compL l m).length = l.length := by simp [compL]
    refine hk H' _ hK (by omega) (sl_cells hb39 hgb (by rw [ivs_length, hcl]) fun j v hv => ?_) (fun c hc => by cases hc; omega)
    simp only [ivs, List.getElem?_map, Option.map_eq_some_iff] at hv
    obtain ⟨z, hz, rfl⟩ := hv
    exact hcc j z (by rw [← hcl]; exact (List.getElem?_eq_some_iff.1 hz).1) hz
  have h : (i : Int) < l.length := of_decide_eq_true h
  obtain ⟨z, hz⟩ := l_some (show i < l.length by omega)
  have hzr := hokl.1 i z hz
  obtain ⟨w, hw⟩ := l_some (l := m) (show z.toNat < m.length by omega)
  have hzn : z = (z.toNat : Int) := by omega
  repeat (first | refine wops_nil ?_ | refine wops_cons (wop_skip' rfl rfl ?_) | refine wops_cons (wop_move rfl rfl ?_) | refine wops_cons (wop_assign rfl rfl ?_) | refine wops_cons (wop_bin (op := .add) rfl rfl rfl rfl (inc (by omega)) ?_) | refine wops_cons (o_lenI rfl rfl rfl rfl rfl (by assumption) ?_) | refine wops_cons (o_load rfl rfl (by assumption) ?_) | refine wops_cons (wop_pick rfl rfl rfl ?_) | refine wops_cons (wop_not rfl rfl rfl ?_) | refine wops_cons (wop_extract rfl rfl rfl rfl ?_) | refine mobs_move rfl rfl rfl ?_ | refine m_load rfl rfl rfl (by assumption) ?_ | refine mobs_nil ?_ | refine wd_nil ?_ | refine wd_skip rfl rfl ?_ | refine wd_loudSkip rfl rfl ?_ | refine wd_move rfl rfl rfl ?_ | refine wd_assign rfl rfl rfl ?_ | refine wd_pick rfl rfl rfl rfl ?_ | refine d_load rfl rfl rfl (by assumption) ?_ | refine d_lenI rfl rfl rfl rfl rfl rfl (by assumption) ?_ | refine wp_condT rfl ?_ | refine wp_condF rfl ?_ | refine wp_region ?_ | refine wp_seq ?_ | refine wp_skip ?_ | refine wp_exit ?_ | refine wp_block ?_)
  refine wops_cons (o_indexI rfl rfl hxx rfl hz fun p hp => ?_)
  repeat (first | refine wops_nil ?_ | refine wops_cons (wop_skip' rfl rfl ?_) | refine wops_cons (wop_move rfl rfl ?_) | refine wops_cons (wop_assign rfl rfl ?_) | refine wops_cons (wop_bin (op := .add) rfl rfl rfl rfl (inc (by omega)) ?_) | refine wops_cons (o_lenI rfl rfl rfl rfl rfl (by assumption) ?_) | refine wops_cons (o_load rfl rfl (by assumption) ?_) | refine wops_cons (wop_pick rfl rfl rfl ?_) | refine wops_cons (wop_not rfl rfl rfl ?_) | refine wops_cons (wop_extract rfl rfl rfl rfl ?_) | refine mobs_move rfl rfl rfl ?_ | refine m_load rfl rfl rfl (by assumption) ?_ | refine mobs_nil ?_ | refine wd_nil ?_ | refine wd_skip rfl rfl ?_ | refine wd_loudSkip rfl rfl ?_ | refine wd_move rfl rfl rfl ?_ | refine wd_assign rfl rfl rfl ?_ | refine wd_pick rfl rfl rfl rfl ?_ | refine d_load rfl rfl rfl (by assumption) ?_ | refine d_lenI rfl rfl rfl rfl rfl rfl (by assumption) ?_ | refine wp_condT rfl ?_ | refine wp_condF rfl ?_ | refine wp_region ?_ | refine wp_seq ?_ | refine wp_skip ?_ | refine wp_exit ?_ | refine wp_block ?_)
  refine wops_cons (o_indexI (j := z.toNat) rfl rfl hyy (by rw [← hzn]; rfl) hw fun p hp => ?_)
  repeat (first | refine wops_nil ?_ | refine wops_cons (wop_skip' rfl rfl ?_) | refine wops_cons (wop_move rfl rfl ?_) | refine wops_cons (wop_assign rfl rfl ?_) | refine wops_cons (wop_bin (op := .add) rfl rfl rfl rfl (inc (by omega)) ?_) | refine wops_cons (o_lenI rfl rfl rfl rfl rfl (by assumption) ?_) | refine wops_cons (o_load rfl rfl (by assumption) ?_) | refine wops_cons (wop_pick rfl rfl rfl ?_) | refine wops_cons (wop_not rfl rfl rfl ?_) | refine wops_cons (wop_extract rfl rfl rfl rfl ?_) | refine mobs_move rfl rfl rfl ?_ | refine m_load rfl rfl rfl (by assumption) ?_ | refine mobs_nil ?_ | refine wd_nil ?_ | refine wd_skip rfl rfl ?_ | refine wd_loudSkip rfl rfl ?_ | refine wd_move rfl rfl rfl ?_ | refine wd_assign rfl rfl rfl ?_ | refine wd_pick rfl rfl rfl rfl ?_ | refine d_load rfl rfl rfl (by assumption) ?_ | refine d_lenI rfl rfl rfl rfl rfl rfl (by assumption) ?_ | refine wp_condT rfl ?_ | refine wp_condF rfl ?_ | refine wp_region ?_ | refine wp_seq ?_ | refine wp_skip ?_ | refine wp_exit ?_ | refine wp_block ?_)
  refine wops_cons (o_indexOwn rfl rfl rfl rfl (by omega) ?_)
  refine wops_cons (o_store rfl rfl rfl hgb (by omega) rfl ?_)
  repeat (first | refine wops_nil ?_ | refine wops_cons (wop_skip' rfl rfl ?_) | refine wops_cons (wop_move rfl rfl ?_) | refine wops_cons (wop_assign rfl rfl ?_) | refine wops_cons (wop_bin (op := .add) rfl rfl rfl rfl (inc (by omega)) ?_) | refine wops_cons (o_lenI rfl rfl rfl rfl rfl (by assumption) ?_) | refine wops_cons (o_load rfl rfl (by assumption) ?_) | refine wops_cons (wop_pick rfl rfl rfl ?_) | refine wops_cons (wop_not rfl rfl rfl ?_) | refine wops_cons (wop_extract rfl rfl rfl rfl ?_) | refine mobs_move rfl rfl rfl ?_ | refine m_load rfl rfl rfl (by assumption) ?_ | refine mobs_nil ?_ | refine wd_nil ?_ | refine wd_skip rfl rfl ?_ | refine wd_loudSkip rfl rfl ?_ | refine wd_move rfl rfl rfl ?_ | refine wd_assign rfl rfl rfl ?_ | refine wd_pick rfl rfl rfl rfl ?_ | refine d_load rfl rfl rfl (by assumption) ?_ | refine d_lenI rfl rfl rfl rfl rfl rfl (by assumption) ?_ | refine wp_condT rfl ?_ | refine wp_condF rfl ?_ | refine wp_region ?_ | refine wp_seq ?_ | refine wp_skip ?_ | refine wp_exit ?_ | refine wp_block ?_)
  refine ⟨l.length - (i + 1), by omega, i + 1, (_ :: _ :: _ :: _ :: _ :: _ :: _ :: _ :: _ :: _ :: _ :: _ :: _ :: _ :: _ :: _ :: _ :: _ :: _ :: _ :: _ :: _ :: _ :: _ :: _ :: _ :: _ :: _ :: _ :: _ :: _ :: _ :: _ :: _ :: _ :: []), cs.set i (iv w), rfl, by omega, hK.set _ hb0 hb39, hn, by rw [AH.get_set _ _ _ _ hb39, if_pos rfl]; rfl, by simpa using hcs, fun j v hj hv => ?_, rfl, rfl⟩
  by_cases e : j = i
  · subst e
    rw [compL_get hz hw] at hv
    cases hv
    rw [List.getElem?_set_self (by omega)]
  · rw [List.getElem?_set_ne (Ne.symm e)]
    exact hcc j v (by omega) hv

end Go.Ev
