/- Part of an evaluator of calls that is proved sound, and of what it gives about this program. No condition of its own. -/
import Derived.Test.YtcbmpnddhnkfnaaGreatDoorEwXi
set_option linter.unusedVariables false
set_option linter.unusedSimpArgs false
set_option linter.unusedSectionVars false
set_option maxRecDepth 100000
set_option maxHeartbeats 4000000
namespace Go.Ev
open Go.Proofs
theorem never_sub {m : Mc} {n : Nat} {l l' : List Int} (hV : Vld m l n) (hs : ∀ z ∈ l', z ∈ l) (h : never m l n) : never m l' n := fun j p h1 h2 => by
 have hr' : InR (permL m n).length l' := fun z hz => hV.lr z (hs z hz)
 refine mtB_sub (fun z hz => ?_) (h j p h1 h2)
 rw [now_it hV.ok hr'] at hz
 rw [now_it hV.ok hV.lr]
 obtain ⟨y, hy, rfl⟩ := List.mem_map.1 hz
 exact List.mem_map.2 ⟨y, hs y hy, rfl⟩
theorem upB_ge (a b : List Int) : a.length ≤ (upB a b).length ∧ b.length ≤ (upB a b).length := by
 unfold upB; split <;> omega
theorem rnd_ge {w : Int → List Int → List Int} {load : List Int} {f : List Int → List Int → List Int} : ∀ (slots best : List Int), best.length ≤ (rnd (fun b l s => upB b (f l s)) w load best slots).length
 | [], best => Nat.le_refl _
 | s :: t, best => Nat.le_trans (upB_ge best _).1 (rnd_ge t _)
theorem rnd_ge2 {w : Int → List Int → List Int} {load : List Int} {f : List Int → List Int → List Int} : ∀ (slots best : List Int) (s : Int) (t : List Int), (s :: t) <:+ slots → (f (load ++ [s]) (w s t)).length ≤ (rnd (fun b l s => upB b (f l s)) w load best slots).length
 | [], best, s, t, h => by have := h.length_le; simp at this
 | a :: u, best, s, t, h => by
   rcases List.suffix_cons_iff.1 h with e | h
   · injection e with e1 e2
     subst e1; subst e2
     exact Nat.le_trans (upB_ge best _).2 (rnd_ge _ _)
   · exact rnd_ge2 u _ s t h
open Classical in
theorem bstX_ge {m : Mc} {n : Nat} : ∀ (k : Nat) (load slots q : List Int), slots.length ≤ k → q.Sublist slots → q.Pairwise (fun s z => never m [s, z] n) → load.length + q.length ≤ (bstX (wmL m n) k load slots).length
 | 0, load, slots, q, hk, hq, _ => by
   have e : slots = [] := List.eq_nil_of_length_eq_zero (by omega)
   subst e
   have := hq.length_le
   show load.length + q.length ≤ load.length
   simp only [List.length_nil] at this
   omega
 | k + 1, load, slots, [], hk, hq, _ => rnd_ge slots load
 | k + 1, load, slots, s :: q, hk, hq, hp => by
   obtain ⟨r1, r2, rfl, h1, h2⟩ := List.cons_sublist_iff.1 hq
   obtain ⟨u, v, rfl⟩ := List.append_of_mem h1
   have hp := List.pairwise_cons.1 hp
   have hsuf : (s :: (v ++ r2)) <:+ ((u ++ s :: v) ++ r2) := ⟨u, by simp⟩
   refine Nat.le_trans ?_ (rnd_ge2 (f := bstX (wmL m n) k) _ load s (v ++ r2) hsuf)
   have hq2 : q.Sublist (wmL m n s (v ++ r2)) := by
     have e : q.filter (fun z => decide (never m [s, z] n)) = q := List.filter_eq_self.2 fun z hz => by simpa using hp.1 z hz
     have := (h2.trans (List.sublist_append_right v r2)).filter (fun z => decide (never m [s, z] n))
     rw [e] at this
     exact this
   have hl : (wmL m n s (v ++ r2)).length ≤ k := by
     have := wmL_len m n s (v ++ r2)
     simp only [List.length_append, List.length_cons] at this hk
     omega
   have := bstX_ge k (load ++ [s]) (wmL m n s (v ++ r2)) q hl hq2 hp.2
   simp only [List.length_append, List.length_cons, List.length_nil] at this ⊢
   omega
structure Gd (m : Mc) (n : Nat) (l : List Int) : Prop where
 v : Vld m l n
 nv : never m l n
 inc : l.Pairwise (· < ·)
theorem upB_of {P : List Int → Prop} {a b : List Int} (ha : P a) (hb : P b) : P (upB a b) := by
 unfold upB; split <;> assumption
theorem rnd_of {P : List Int → Prop} {w : Int → List Int → List Int} {load : List Int} {f : List Int → List Int → List Int} : ∀ (slots best : List Int), P best → (∀ s t, (s :: t) <:+ slots → P (f (load ++ [s]) (w s t))) → P (rnd (fun b l s => upB b (f l s)) w load best slots)
 | [], best, hb, _ => hb
 | s :: t, best, hb, h => rnd_of t _ (upB_of hb (h s t (List.suffix_refl _))) fun s' t' h' => h s' t' (h'.trans (List.suffix_cons _ _))
open Classical in
theorem bstX_good {m : Mc} {n : Nat} (hev : m.ring = true → n % 2 = 0) : ∀ (k : Nat) (load slots : List Int), Gd m n load → slots.Pairwise (· < ·) → (∀ z ∈ slots, (0 ≤ z ∧ z < ((4 * n : Nat) : Int)) ∧ never m (load ++ [z]) n ∧ ∀ y ∈ load, y < z) → Gd m n (bstX (wmL m n) k load slots)
 | 0, load, slots, hg, _, _ => hg
 | k + 1, load, slots, hg, hs, hz => by
   refine rnd_of slots load hg fun s t h => ?_
   have hsm := hz s (h.subset List.mem_cons_self)
   have hsn : s ∉ load := fun h => by have := hsm.2.2 s h; omega
   have hp := hs.sublist h.sublist
   have hp := List.pairwise_cons.1 hp
   have hV1 := hg.v.snoc hsm.1 hsn
   have hV0 : Vld m [] n := hg.v.sub (fun z hz => by cases hz) List.nodup_nil
   have hVs : Vld m [s] n := hg.v.sub (fun z hz => by rw [List.mem_singleton.1 hz]; exact hsm.1) (by simp)
   refine bstX_good hev k (load ++ [s]) _ ⟨hV1, hsm.2.1, ?_⟩ (hp.2.sublist List.filter_sublist) fun z hzz => ?_
   · rw [List.pairwise_append]
     exact ⟨hg.inc, by simp, fun a ha b hb => by rw [List.mem_singleton.1 hb]; exact hsm.2.2 a ha⟩
   · obtain ⟨hzt, hzn⟩ := List.mem_filter.1 hzz
     have hzn : never m [s, z] n := of_decide_eq_true hzn
     have hzs := hz z (h.subset (List.mem_cons_of_mem _ hzt))
     have hlt := hp.1 z hzt
     refine ⟨hzs.1, ?_, fun y hy => ?_⟩
     · have g := (never_snoc hg.v hzs.1 hev hg.nv).1 hzs.2.1
       refine (never_snoc hV1 hzs.1 hev hsm.2.1).2 fun y hy => ?_
       rcases List.mem_append.1 hy with hy | hy
       · exact g y hy
       · rw [List.mem_singleton.1 hy]
         exact (never_two hVs hzs.1 hev (never_one hV0 hsm.1 hev)).1 hzn
     · rcases List.mem_append.1 hy with hy | hy
       · exact hzs.2.2 y hy
       · rw [List.mem_singleton.1 hy]; exact hlt
theorem fillL_eq (m : Mc) (n : Nat) : fillL m n = bstX (wmL m n) (4 * n) [] (freeL m n [] (4 * n)) := by
 unfold fillL
 rw [ext_eq (wmL_len m n) (4 * n) _ _ _ (freeL_len _ _ _ _), upB_nil]
theorem freeL_mem_iff {m : Mc} {n : Nat} {l : List Int} {i : Nat} {z : Int} : z ∈ freeL m n l i ↔ (0 ≤ z ∧ z < (i : Int)) ∧ z ∉ l ∧ never m (l ++ [z]) n := by
 constructor
 · intro h
   exact ⟨freeL_mem h, freeL_in h⟩
 · rintro ⟨⟨h1, h2⟩, h3⟩
   obtain ⟨k, rfl⟩ := Int.eq_ofNat_of_zero_le h1
   unfold freeL
   refine List.mem_map.2 ⟨k, List.mem_filter.2 ⟨List.mem_range.2 (by omega), ?_⟩, rfl⟩
   simpa using h3
theorem fill_good {m : Mc} {n : Nat} (hV : Vld m [] n) (hev : m.ring = true → n % 2 = 0) : Gd m n (fillL m n) := by
 rw [fillL_eq]
 refine bstX_good hev _ _ _ ⟨hV, never_nil m n, List.Pairwise.nil⟩ (freeL_inc _ _ _ _) fun z hz => ?_
 have := freeL_mem_iff.1 hz
 exact ⟨this.1, this.2.2, fun y hy => by cases hy⟩
open Classical in
theorem fill_ge {m : Mc} {n : Nat} {l : List Int} (hV : Vld m l n) (hn : never m l n) : l.length ≤ (fillL m n).length := by
 have hsub : l ⊆ (freeL m n [] (4 * n)).filter fun z => decide (z ∈ l) := fun z hz => by
   refine List.mem_filter.2 ⟨freeL_mem_iff.2 ⟨hV.hl z hz, List.not_mem_nil, ?_⟩, by simpa using hz⟩
   refine never_sub (l' := [] ++ [z]) hV (fun y hy => ?_) hn
   have e : y = z := by simpa using hy
   rw [e]; exact hz
 have h1 := hV.hd.length_le_of_subset hsub
 have h2 := bstX_ge (m := m) (n := n) (4 * n) [] (freeL m n [] (4 * n)) ((freeL m n [] (4 * n)).filter fun z => decide (z ∈ l)) (freeL_len _ _ _ _) List.filter_sublist (List.pairwise_of_forall_mem_list fun a ha b hb => ?_)
 · rw [← fillL_eq] at h2
   simp only [List.length_nil] at h2
   omega
 · have ha := of_decide_eq_true (List.mem_filter.1 ha).2
   have hb := of_decide_eq_true (List.mem_filter.1 hb).2
   refine never_sub hV (fun y hy => ?_) hn
   rcases List.mem_cons.1 hy with rfl | hy
   · exact ha
   · rw [List.mem_singleton.1 hy]; exact hb
theorem fill_free {m : Mc} {n : Nat} (hV : Vld m [] n) (hev : m.ring = true → n % 2 = 0) : freeL m n (fillL m n) (4 * n) = [] := by
 have hg := fill_good hV hev
 refine List.eq_nil_iff_forall_not_mem.2 fun z hz => ?_
 obtain ⟨h1, h2, h3⟩ := freeL_mem_iff.1 hz
 have := fill_ge (hg.v.snoc h1 h2) h3
 rw [List.length_append, List.length_singleton] at this
 omega
end Go.Ev
