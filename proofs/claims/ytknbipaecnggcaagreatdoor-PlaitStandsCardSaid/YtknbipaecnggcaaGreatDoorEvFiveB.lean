/- Part of an evaluator of calls that is proved sound, and of what it gives about this program. No condition of its own. -/
import Derived.Test.YtknbipaecnggcaaGreatDoorEvFive
import Derived.Shelf.Strings.Repeat
import Derived.Shelf.Slices.Cells
import Derived.Shelf.Spec.SlicesGrow
import Derived.Shelf.Strings.Builder1
set_option linter.unusedVariables false
set_option linter.unusedSimpArgs false
set_option linter.unusedSectionVars false
set_option maxHeartbeats 1000000
set_option maxRecDepth 100000
namespace Go.Ev
open Go.Proofs Go.Shelf
section
variable {P : Program} {base : Nat} {ρ : Pl} {H : AH} {w : World}
noncomputable def repO (g : FuncId) : CallF := fun f args H =>
 match Nat.beq f g with
 | false => none
 | true =>
   match args with
   | [.v (.string s), .v (.int .i64 (.ofNat c))] => if Nat.ble c 1000000 && Nat.ble (s.size * c) 1000000 then some (.v (.string ⟨(Lib.repeatL s.data.toList c).toArray⟩), H) else none
   | _ => none
theorem repO_ok {ρn : Ren} (L : Lays.n105 P ρn) (X : Builder.Extra P ρn) : CallOk P (repO (ρn.f 105)) := by
 intro g args H r H' h hle base ρ w vs hI hf hv
 unfold repO at h
 split at h
 · cases h
 · rename_i hgb
   obtain rfl := Nat.eq_of_beq_eq_true hgb
   split at h
   · rename_i s c
     split at h
     · rename_i hc
       simp only [Bool.and_eq_true] at hc
       have c1 := Nat.le_of_ble_eq_true hc.1
       have c2 := Nat.le_of_ble_eq_true hc.2
       cases h
       cases hv with
       | @cons _ sv _ vs1 hs hv =>
       cases hs
       cases hv with
       | @cons _ cv _ vs2 hcv hv =>
       cases hcv
       cases hv with
       | nil =>
       refine (Any.strings_Repeat L X s c w (by omega) (by omega)).mono ?_
       rintro e' w' ⟨rfl, hb⟩
       exact ⟨ρ, _, rfl, .v _, Post.below hI hb⟩
     · cases h
   · cases h
noncomputable def intsA (l : List AV) : Option (List Int) :=
 List.rec (motive := fun _ => Option (List Int)) (some []) (fun a _ ih => match a with | .v (.int .i64 z) => (match ih with | some r => some (z :: r) | none => none) | _ => none) l
theorem intsA_spec : ∀ {l : List AV} {zs : List Int}, intsA l = some zs → l = zs.map fun z => .v (.int .i64 z)
 | [], zs, h => by cases h; rfl
 | a :: l, zs, h => by
   have h : (match (generalizing := false) a with | .v (.int .i64 z) => (match (generalizing := false) intsA l with | some r => some (z :: r) | none => none) | _ => none) = some zs := h
   split at h
   · split at h
     · rename_i r hr
       cases h
       rw [intsA_spec hr]; rfl
     · cases h
   · cases h
def zsA (l : List Int) : List AV := l.map fun z => .v (.int .i64 z)
theorem zsA_crs (l : List Int) : CRs ρ (zsA l) (l.map (Value.int .i64)) := by
 have := CRs.vs ρ (l.map (Value.int .i64))
 rwa [List.map_map] at this
theorem zsA_len (l : List Int) : (zsA l).length = l.length := List.length_map _
theorem cells_ints {nb off n : Nat} {cs : List AV} {ys : List Value} {zs : List Int} {e : TypeId} (hy : CRs ρ cs ys) (hh : w.heap[nb]? = some (.cells (ys ++ []).toArray e (0, 0))) (hz : intsA ((cs.drop off).take n) = some zs) :
   ∀ k, k < zs.length → w.cell? ⟨nb, off + k, none⟩ = some (.int .i64 (zs.getD k 0)) := fun k hk => by
 have h2 : ((cs.drop off).take n)[k]? = some (.v (.int .i64 (zs.getD k 0))) := by
   rw [intsA_spec hz, List.getElem?_map, List.getElem?_eq_getElem hk, List.getD_eq_getElem?_getD, List.getElem?_eq_getElem hk]; rfl
 have hkn : k < n := by
   have := (List.getElem?_eq_some_iff.1 h2).1
   rw [List.length_take] at this
   omega
 rw [List.getElem?_take, if_pos hkn, List.getElem?_drop] at h2
 rcases hy.get (off + k) with ⟨p, q, h3, h4, h5⟩ | ⟨h3, _⟩
 · rw [h2] at h3; cases h3
   cases h5
   simp only [World.cell?, hh, List.append_nil]
   simpa using h4
 · rw [h2] at h3; cases h3
theorem blk_wr {nb c off : Nat} {cs news : List AV} {ys us : List Value} {e : TypeId} {w' : World} (hy : CRs ρ cs ys) (hc : c = ys.length + ([] : List Value).length) (hn : CRs ρ news us) (hle : off + us.length ≤ ys.length) (hh : w'.heap[nb]? = some (.cells (setL (ys ++ []).toArray off us) e (0, 0))) : BlkR ρ nb c w' (.cells (wr cs off news) e 0) := by
 refine ⟨ys.take off ++ us ++ ys.drop (off + us.length), [], ?_, ⟨(0, 0), ?_, thawed0 _⟩, ?_, fun _ => rfl⟩
 · unfold wr
   rw [hn.length]
   exact ((hy.take off).append hn).append (hy.drop _)
 · rw [hh]
   congr 2
   apply Array.ext'
   rw [setL_toList _ _ _ (by simpa using hle)]
   simp
 · rw [hc]; simp; omega
noncomputable def delO (g : FuncId) : CallF := fun f args H =>
 match Nat.beq f g with
 | false => none
 | true =>
   match args with
   | [.slc b off n c, .v (.int .i64 (.ofNat i)), .v (.int .i64 (.ofNat j))] =>
     match H.get b with
     | some (.cells cs e 0) =>
       match intsA ((cs.drop off).take n) with
       | some zs =>
         if Nat.ble i j && Nat.ble j n && Nat.ble n c && Nat.beq zs.length n && Nat.ble c 1000000 && Nat.ble (off + n) cs.length then
           some (.slc b off (n - (j - i)) c, H.set b (some (.cells (wr cs off (zsA (zs.take i ++ zs.drop j ++ List.replicate (j - i) 0))) e 0)))
         else none
       | none => none
     | _ => none
   | _ => none
theorem delO_ok {ρn : Ren} (L : Lays2.n23 P ρn) : CallOk P (delO (ρn.f 23)) := by
 intro g args H r H' h hle base ρ w vs hI hf hv
 unfold delO at h
 split at h
 · cases h
 · rename_i hgb
   obtain rfl := Nat.eq_of_beq_eq_true hgb
   split at h
   · rename_i b off n c i j
     split at h
     · rename_i cs e hg
       split at h
       · rename_i zs hzs
         split at h
         · rename_i hc
           simp only [Bool.and_eq_true] at hc
           obtain ⟨⟨⟨⟨⟨c1, c2⟩, c3⟩, c4⟩, c5⟩, c6⟩ := hc
           have c1 := Nat.le_of_ble_eq_true c1
           have c2 := Nat.le_of_ble_eq_true c2
           have c3 := Nat.le_of_ble_eq_true c3
           have c4 := Nat.eq_of_beq_eq_true c4
           have c5 := Nat.le_of_ble_eq_true c5
           have c6 := Nat.le_of_ble_eq_true c6
           cases h
           cases hv with
           | @cons _ sv _ vs1 hs hv =>
           cases hv with
           | @cons _ iv' _ vs2 hi hv =>
           cases hi
           cases hv with
           | @cons _ jv' _ vs3 hj hv =>
           cases hj
           cases hv with
           | nil =>
           cases hs with
           | @slc _ _ _ _ nb cb hρ =>
           obtain ⟨n', c', q1, _, ys, ex, hy, ⟨fz, hh, hz⟩, hcc, hg0⟩ := hI.blk _ _ hg
           rw [hρ] at q1; cases q1
           obtain rfl := hg0 rfl
           obtain rfl := hz.2.1 rfl
           have hlen := hy.length
           subst c4
           refine (Any.slices_Delete_int_cells L nb off zs.length c i j zs w (Nat.le_refl _) c3 (by omega) c1 c2 (cells_ints hy hh hzs) (fun k hk => by simp [World.frozen?, hh])).mono ?_
           rintro e' w' ⟨rfl, q, rfl⟩
           have hdr := Post.drew hI (w.drawn + q)
           rw [List.take_length]
           have hh' : (w.drewN q).heap[nb]? = some (.cells (ys ++ []).toArray e (0, 0)) := hh
           obtain ⟨f1, f2, f3, f4, f5, f6⟩ := setCells_facts nb ((zs.take i ++ zs.drop j ++ List.replicate (j - i) 0).map (Value.int .i64)) off (w.drewN q) _ _ _ hh'
           refine ⟨ρ, _, rfl, .slc hρ, hdr.trans (Post.put hdr.inv hg hρ _ _ f4 f5 f6 f3 f2 (blk_wr hy hcc (zsA_crs _) ?_ f1))⟩
           simp only [List.length_map, List.length_append, List.length_take, List.length_drop, List.length_replicate]
           omega
         · cases h
       · cases h
     · cases h
   · cases h
noncomputable def insR (g : FuncId) : CallF := fun f args H =>
 match Nat.beq f g with
 | false => none
 | true =>
   match args with
   | [.slc b 0 n c, .v (.int .i64 (.ofNat k)), .slc vb 0 1 _] =>
     match H.get b with
     | some (.cells cs e 0) =>
       match H.get vb with
       | some (.cells [.v (.int .i64 zv)] _ 0) =>
         match intsA ((cs.drop 0).take n) with
         | some zs =>
           if Nat.ble (n + 1) c && Nat.ble c cs.length && Nat.ble k n && Nat.beq zs.length n && Nat.ble c 1000000 && !Nat.beq b vb then
             some (.slc b 0 (n + 1) c, H.set b (some (.cells (wr cs 0 (zsA (zs.take k ++ zv :: zs.drop k))) e 0)))
           else none
         | none => none
       | _ => none
     | _ => none
   | _ => none
theorem insR_ok {ρn : Ren} (L : Lays2.n21 P ρn) : CallOk P (insR (ρn.f 21)) := by
 intro g args H r H' h hle base ρ w vs hI hf hv
 unfold insR at h
 split at h
 · cases h
 · rename_i hgb
   obtain rfl := Nat.eq_of_beq_eq_true hgb
   split at h
   · rename_i b n c k vb vc
     split at h
     · rename_i cs e hg
       split at h
       · rename_i zv ev hgv
         split at h
         · rename_i zs hzs
           split at h
           · rename_i hc
             simp only [Bool.and_eq_true, Bool.not_eq_true'] at hc
             obtain ⟨⟨⟨⟨⟨c1, c2⟩, c3⟩, c4⟩, c5⟩, c6⟩ := hc
             have c1 := Nat.le_of_ble_eq_true c1
             have c2 := Nat.le_of_ble_eq_true c2
             have c3 := Nat.le_of_ble_eq_true c3
             have c4 := Nat.eq_of_beq_eq_true c4
             have c5 := Nat.le_of_ble_eq_true c5
             have c6 : b ≠ vb := fun e => by subst e; rw [Nat.beq_refl] at c6; cases c6
             cases h
             cases hv with
             | @cons _ sv _ vs1 hs hv =>
             cases hv with
             | @cons _ iv' _ vs2 hi hv =>
             cases hi
             cases hv with
             | @cons _ vv _ vs3 hvv hv =>
             cases hv with
             | nil =>
             cases hs with
             | @slc _ _ _ _ nb cb hρ =>
             cases hvv with
             | @slc _ _ _ _ vbn vbc hρv =>
             obtain ⟨n', c', q1, _, ys, ex, hy, ⟨fz, hh, hz⟩, hcc, hg0⟩ := hI.blk _ _ hg
             rw [hρ] at q1; cases q1
             obtain rfl := hg0 rfl
             obtain rfl := hz.2.1 rfl
             have hlen := hy.length
             obtain ⟨nv', cv', q1, _, xs0, ex0, hx0, ⟨fz0, hh0, hz0⟩, _, hg0v⟩ := hI.blk _ _ hgv
             rw [hρv] at q1; cases q1
             obtain rfl := hg0v rfl
             obtain rfl := hz0.2.1 rfl
             cases hx0 with
             | @cons _ v0 _ xs1 hv0 hx1 =>
             cases hv0
             cases hx1
             have hne : vbn ≠ nb := fun e => by subst e; exact c6 (hI.inj _ _ _ _ _ _ _ hg hgv hρ hρv)
             have hcellv : ∀ j v, [Value.int .i64 zv][j]? = some v → w.cell? ⟨vbn, 0 + j, none⟩ = some v := fun j v hj => by
               simp only [World.cell?, hh0]
               simpa using hj
             have hone : ∀ v ∈ [Value.int .i64 zv], v.oneCell' = true := fun v hv => by simp at hv; subst hv; rfl
             subst c4
             have hcell := cells_ints hy hh hzs
             have hcells : ∀ j v, (zs.map (Value.int .i64))[j]? = some v → w.cell? ⟨nb, 0 + j, none⟩ = some v := fun j v hj => by
               have hjl : j < zs.length := by have := (List.getElem?_eq_some_iff.1 hj).1; simpa using this
               rw [hcell j hjl]
               rw [List.getElem?_map, List.getElem?_eq_getElem hjl] at hj
               rw [List.getD_eq_getElem?_getD, List.getElem?_eq_getElem hjl]
               exact hj
             have h1c : ∀ v ∈ zs.map (Value.int .i64), v.oneCell' = true := fun v hv => by
               obtain ⟨z, _, rfl⟩ := List.mem_map.1 hv; rfl
             have hsome : ∀ j, j < c → (w.cell? ⟨nb, j, none⟩).isSome = true := fun j hj => by
               simp only [World.cell?, hh, List.append_nil]
               simp
               omega
             have hthaw : ∀ j, w.frozen? ⟨nb, j, none⟩ = false := fun j => by simp [World.frozen?, hh]
             have hyz : ys.take zs.length = zs.map (Value.int .i64) := by
               have := intsA_spec hzs
               have h2 : CRs ρ ((cs.drop 0).take zs.length) (ys.take zs.length) := by
                 rw [List.drop_zero]; exact hy.take _
               rw [this] at h2
               exact CRs.det h2 (zsA_crs zs)
             obtain ⟨y, ex', hex⟩ : ∃ y ex', ys = zs.map (Value.int .i64) ++ y :: ex' := by
               have h1 := List.take_append_drop zs.length ys
               rw [hyz] at h1
               cases hd : ys.drop zs.length with
               | nil =>
                 have := congrArg List.length hd
                 simp at this
                 omega
               | cons y ex' => exact ⟨y, ex', by rw [← h1, hd]⟩
             have hnl : (zsA (zs.take k ++ zv :: zs.drop k)).length = zs.length + 1 := by rw [zsA_len]; simp; omega
             have hnew : CRs ρ (wr cs 0 (zsA (zs.take k ++ zv :: zs.drop k))) (((zs.map (Value.int .i64)).take k ++ Value.int .i64 zv :: (zs.map (Value.int .i64)).drop k) ++ ex') := by
               unfold wr
               rw [List.take_zero, List.nil_append, hnl]
               refine CRs.append ?_ ?_
               · have := zsA_crs (ρ := ρ) (zs.take k ++ zv :: zs.drop k)
                 rw [List.map_append, List.map_cons, List.map_take, List.map_drop] at this
                 exact this
               · have := hy.drop (0 + (zs.length + 1))
                 rw [hex] at this
                 have e5 : (zs.map (Value.int .i64) ++ y :: ex').drop (0 + (zs.length + 1)) = ex' := by
                   rw [show zs.map (Value.int .i64) ++ y :: ex' = (zs.map (Value.int .i64) ++ [y]) ++ ex' by simp]
                   exact drop_l (by simp)
                 rw [e5] at this
                 exact this
             have hfin : ∀ w', w'.heap[nb]? = some (.cells (((zs.map (Value.int .i64)).take k ++ Value.int .i64 zv :: (zs.map (Value.int .i64)).drop k) ++ ex').toArray e (0, 0)) → BlkR ρ nb cb w' (.cells (wr cs 0 (zsA (zs.take k ++ zv :: zs.drop k))) e 0) := fun w' hw => by
               refine ⟨_, [], hnew, ⟨(0, 0), by rw [hw, List.append_nil], thawed0 _⟩, ?_, fun _ => rfl⟩
               rw [hcc, hex]
               simp
               omega
             have hzm : (zs.map (Value.int .i64)).length = zs.length := List.length_map _
             rcases Nat.lt_or_ge k zs.length with hk | hk
             · refine (Any2.slices_Insert_int_shift L nb 0 zs.length c k vbn 0 1 vc (zs.map (Value.int .i64)) [.int .i64 zv] w hk (by omega) c1 (by omega) hne hzm rfl hcells (fun j hj => by rw [Nat.zero_add]; exact hsome j (by omega)) (fun j hj => by rw [Nat.zero_add]; exact hthaw j) hcellv h1c hone ev e 1 cb
                 (by simp [World.shape?, hh0]) (by simp [World.shape?, hh, hcc]) (by rw [hcc, hex]; simp) (by simp [World.frozen?, hh0]) (by simp [World.frozen?, hh0])).mono ?_
               rintro e' w' ⟨rfl, rfl⟩
               have hdr := Post.drew hI (w.drawn + 1)
               have hh' : w.drew.heap[nb]? = some (.cells (ys ++ []).toArray e (0, 0)) := hh
               obtain ⟨f1, f2, f3, f4, f5, f6⟩ := setCells_facts nb ((zs.map (Value.int .i64)).drop k) (0 + (k + 1)) w.drew _ _ _ hh'
               obtain ⟨g1, g2, g3, g4, g5, g6⟩ := setCells_facts nb [.int .i64 zv] (0 + k) _ _ _ _ f1
               refine ⟨ρ, _, rfl, .slc hρ, hdr.trans (Post.put hdr.inv hg hρ _ _ (g4.trans f4) (g5.trans f5) (g6.trans f6) (g3.trans f3) (fun j hj => (g2 j hj).trans (f2 j hj)) (hfin _ ?_))⟩
               rw [g1]
               congr 2
               apply Array.ext'
               have hAs : (ys ++ []).toArray.size = zs.length + 1 + ex'.length := by rw [hex]; simp; omega
               rw [setL_toList _ _ _ (by rw [setL_size, hAs]; simp; omega), setL_toList _ _ _ (by rw [hAs]; simp; omega)]
               simp only [Nat.zero_add, List.append_nil]
               rw [hex]
               exact lst_shift (by rw [hzm]; exact hk)
             · obtain rfl : k = zs.length := by omega
               refine (Any2.slices_Insert_int_end_room L nb 0 zs.length c vbn 0 1 vc [.int .i64 zv] w (by omega) c1 (by omega) rfl (fun j hj => by rw [Nat.zero_add]; exact hsome _ (by omega)) (fun j hj => by rw [Nat.zero_add]; exact hthaw _) hcellv hone).mono ?_
               rintro e' w' ⟨rfl, rfl⟩
               obtain ⟨f1, f2, f3, f4, f5, f6⟩ := setCells_facts nb [.int .i64 zv] (0 + zs.length) w _ _ _ hh
               refine ⟨ρ, _, rfl, .slc hρ, Post.put hI hg hρ _ _ f4 f5 f6 f3 f2 (hfin _ ?_)⟩
               rw [f1]
               congr 2
               apply Array.ext'
               have hAs : (ys ++ []).toArray.size = zs.length + 1 + ex'.length := by rw [hex]; simp; omega
               rw [setL_toList _ _ _ (by rw [hAs]; simp)]
               simp only [Nat.zero_add, List.append_nil]
               rw [hex]
               have e1 : (zs.map (Value.int .i64) ++ y :: ex').take zs.length = zs.map (Value.int .i64) := take_l hzm
               have e2 : (zs.map (Value.int .i64) ++ y :: ex').drop (zs.length + 1) = ex' := by
                 rw [show zs.map (Value.int .i64) ++ y :: ex' = (zs.map (Value.int .i64) ++ [y]) ++ ex' by simp]
                 exact drop_l (by simp)
               have e3 : (zs.map (Value.int .i64)).take zs.length = zs.map (Value.int .i64) := List.take_of_length_le (by omega)
               have e4 : (zs.map (Value.int .i64)).drop zs.length = [] := List.drop_of_length_le (by omega)
               rw [e3, e4, show zs.length + [Value.int .i64 zv].length = zs.length + 1 from rfl, e1, e2]

           · cases h
         · cases h
       · cases h
     · cases h
   · cases h
noncomputable def growO (g : FuncId) (t3 : TypeId) : CallF := fun f args H =>
 match Nat.beq f g with
 | false => none
 | true =>
   match args with
   | [.v (.slice none 0 0), .v (.int .i64 (.ofNat n))] =>
     if Nat.ble 1 n && Nat.ble n 1000000 && Nat.ble (H.next + 1) (2 ^ 39) then some (.slu H.next 0 0 1, H.add (.cells [] t3 1)) else none
   | _ => none
theorem growO_ok {ρn : Ren} (L : Lays8.n4 P ρn) (i0 : TypeInfo) (hi0 : P.info? (ρn.t 25) = some i0) (hz0 : i0.zero = some (.int .i64 0)) (hs0 : i0.size = 1) (hb0 : i0.bytes ≤ 8) : CallOk P (growO (ρn.f 4) (ρn.t 25)) := by
 intro g args H r H' h hle base ρ w vs hI hf hv
 unfold growO at h
 split at h
 · cases h
 · rename_i hgb
   obtain rfl := Nat.eq_of_beq_eq_true hgb
   split at h
   · rename_i n
     split at h
     · rename_i hc
       simp only [Bool.and_eq_true] at hc
       obtain ⟨⟨c1, c2⟩, c3⟩ := hc
       have c1 := Nat.le_of_ble_eq_true c1
       have c2 := Nat.le_of_ble_eq_true c2
       have c3 : H.next < 2 ^ 39 := Nat.le_of_ble_eq_true c3
       cases h
       cases hv with
       | @cons _ sv _ vs1 hs hv =>
       cases hs
       cases hv with
       | @cons _ nv _ vs2 hn hv =>
       cases hn
       cases hv with
       | nil =>
       have hfn : ρ H.next = none := hf _ (Nat.le_refl _) (by simp [AH.add])
       have hbig : (0 + n) * i0.bytes ≤ 140737488355328 := Nat.le_trans (Nat.mul_le_mul (show 0 + n ≤ 1000000 by omega) hb0) (by decide)
       refine (Any8.slices_Grow_grow L i0 (.int .i64 0) hi0 hz0 (by omega) none 0 0 n [] w (Nat.le_refl _) (by omega) hbig (by omega) (by simp) (fun _ => rfl) (fun a ha => by cases ha)).mono ?_
       rintro e' w' ⟨rfl, rfl⟩
       have hdr := Post.drew hI (w.drawn + 1)
       have hG := le_grownCap w (0 + n) 0 (ρn.t 25)
       have hG2 := grownCap_le w (need := 0 + n) 0 (ρn.t 25) (by omega)
       generalize grownCap w (0 + n) 0 (ρn.t 25) = G at hG hG2
       have z1 := zeroCells_int (0 + n - 0)
       have z2 := zeroCells_int (G - (0 + n))
       generalize Builtin.zeroCells (Value.int .i64 0).cells (0 + n - 0) = Z1 at z1
       generalize Builtin.zeroCells (Value.int .i64 0).cells (G - (0 + n)) = Z2 at z2
       obtain ⟨A, hA⟩ : ∃ A, ([] : List Value).toArray ++ Z1 ++ Z2 = A := ⟨_, rfl⟩
       rw [hA]
       have hAs : A.size = G := by rw [← hA]; simp [z1, z2]; omega
       have hp := Post.add hdr.inv c3 hfn (.cells [] (ρn.t 25) 1) (.cells A (ρn.t 25)) G
         (fun ρ' w' _ hw => ⟨[], A.toList, .nil, ⟨(0, 0), by rw [hw]; simp, thawedG (by simp; omega)⟩, by simp [hAs], fun e => by cases e⟩)
       refine ⟨_, _, rfl, ?_, hdr.trans hp⟩
       have := CR.slu (ρ := fun i => if i = H.next then some (w.heap.size, G) else ρ i) (b := H.next) (off := 0) (len := 0) (sz := 1) (n := w.heap.size) (c := G) (by simp)
       simpa using this
     · cases h
   · cases h
noncomputable def ccO (g : FuncId) (t72 : TypeId) : CallF := fun f args H =>
 match Nat.beq f g with
 | false => none
 | true =>
   match args with
   | [.ptr b 0] =>
     match H.get b with
     | some (.cells [.v (.pointer none), c1] e 0) => if Nat.beq e t72 then some (.tup [], H.set b (some (.cells [.ptr b 0, c1] e 0))) else none
     | some (.cells [.ptr b' 0, c1] e 0) => if Nat.beq b b' then some (.tup [], H) else none
     | _ => none
   | _ => none
theorem ccO_ok {ρn : Ren} (L : Lays.n240 P ρn) (X : Builder.X72 P ρn) : CallOk P (ccO (ρn.f 240) (ρn.t 72)) := by
 intro g args H r H' h hle base ρ w vs hI hf hv
 unfold ccO at h
 split at h
 · cases h
 · rename_i hgb
   obtain rfl := Nat.eq_of_beq_eq_true hgb
   split at h
   · rename_i b
     cases hv with
     | @cons _ sv _ vs1 hs hv =>
     cases hv with
     | nil =>
     cases hs with
     | @ptr _ _ nb cb hρ =>
     split at h
     · rename_i c1 e hg
       split at h
       · rename_i he
         obtain rfl := Nat.eq_of_beq_eq_true he
         cases h
         obtain ⟨n', c', q1, _, ys, ex, hy, ⟨fz, hh, hz⟩, hcc, hg0⟩ := hI.blk _ _ hg
         rw [hρ] at q1; cases q1
         obtain rfl := hg0 rfl
         obtain rfl := hz.2.1 rfl
         cases hy with
         | @cons _ y0 _ ys1 h0 hy =>
         cases h0
         cases hy with
         | @cons _ y1 _ ys2 h1 hy =>
         cases hy
         refine (Any.Builder_copyCheck_fresh L X nb w (by simp [World.cell?, hh]) (by simp [World.shape?, hh]) (by simp [World.frozen?, hh])).mono ?_
         rintro e' w' ⟨rfl, rfl⟩
         obtain ⟨f1, f2, f3, f4, f5, f6⟩ := setCells_facts nb [.pointer (some ⟨nb, 0, none⟩)] 0 w _ _ _ hh
         refine ⟨ρ, _, rfl, .tup .nil, Post.put hI hg hρ _ _ f4 f5 f6 f3 f2 ?_⟩
         exact blk_wr (cs := [.v (.pointer none), c1]) (news := [.ptr b 0]) (off := 0) (.cons (.v _) (.cons h1 .nil)) hcc (.cons (.ptr hρ) .nil) (by simp) f1
       · cases h
     · rename_i b' c1 e hg
       split at h
       · rename_i he
         obtain rfl := Nat.eq_of_beq_eq_true he
         cases h
         obtain ⟨n', c', q1, _, ys, ex, hy, ⟨fz, hh, hz⟩, hcc, hg0⟩ := hI.blk _ _ hg
         rw [hρ] at q1; cases q1
         cases hy with
         | @cons _ y0 _ ys1 h0 hy =>
         cases h0 with
         | @ptr _ _ nb2 cb2 hρ2 =>
         rw [hρ] at hρ2; cases hρ2
         refine (Any.Builder_copyCheck_used L X nb w (by simp [World.cell?, hh])).mono ?_
         rintro e' w' ⟨rfl, rfl⟩
         exact ⟨ρ, _, rfl, .tup .nil, Post.refl hI⟩
       · cases h
     · cases h
   · cases h
end
end Go.Ev
namespace Go.Proofs
open Go.Shelf Go.RowKit
variable {P : Program} {ρ : Ren}
theorem Any.Builder_String_fz (L : Lays.n169 P ρ) (X : Builder.Extra P ρ) (b g cap : Nat) (p : Value) (cur : Array Value) (fz : Nat × Nat) (l : List UInt8) (w : World) (hbk : w.heap[b]? = some (.cells #[p, .slice (some ⟨g, 0, none⟩) l.length cap] (ρ.t 72) (0, 0))) (hbg : w.heap[g]? = some (.cells cur (ρ.t 5) fz))
   (hl : ∀ (j : Nat) (x : UInt8), l[j]? = some x → cur[j]? = some (Value.int .u8 x.toNat)) (hcap : l.length ≤ cap) (hsz : l.length ≤ cur.size) (hlm : l.length ≤ 1000000) (h0 : l ≠ []) :
   Calls P (ρ.f 169) #[.pointer (some ⟨b, 0, none⟩)] w fun e w' => e = .returned (.string ⟨l.toArray⟩) ∧ w' = w.drew.freeze ⟨g, 0, none⟩ l.length := by
 have hl0 : l.length ≠ 0 := by simpa using h0
 have c1 : w.drew.cell? ⟨b, 1, none⟩ = some (.slice (some ⟨g, 0, none⟩) l.length cap) := by
   have : w.drew.heap[b]? = some (.cells #[p, .slice (some ⟨g, 0, none⟩) l.length cap] (ρ.t 72) (0, 0)) := hbk
   rw [Lib.cell_of_heap this]; rfl
 have hSD : (Builtin.unsafeSliceData_ #[(ρ.t 37)] (ρ.t 127) #[.slice (some ⟨g, 0, none⟩) l.length cap]).run P w.drew = .ok (.pointer (some ⟨g, 0, none⟩)) w.drew :=
   Lib.run_unsafeSliceData_row _ _ _ _ _ _ (by omega)
 have hUS : (Builtin.unsafeString_ #[(ρ.t 127), (ρ.t 3)] (ρ.t 9) #[.pointer (some ⟨g, 0, none⟩), .int .i64 l.length]).run P w.drew = .ok (.string ⟨l.toArray⟩) (w.drew.freeze ⟨g, 0, none⟩ l.length) := by
   refine Lib.run_unsafeString_row w.drew (ρ.t 127) (ρ.t 3) (ρ.t 9) (ρ.t 5) L.t127 X.cellsByte g cur.size (by have hg' : w.drew.heap[g]? = some (.cells cur (ρ.t 5) fz) := hbg; simp [World.shape?, hg']) l h0 (by omega) (by omega) ?_
   intro j x hx
   have hg' : w.drew.heap[g]? = some (.cells cur (ρ.t 5) fz) := hbg
   rw [Addr.add_lit, Lib.cell_of_heap hg']
   have := hl j x hx
   simpa using this
 have mixed := L.mixed
 have t72 := L.t72; have a72 := L.a72; have z72 := L.z72; have v72 := L.v72; have u72 := run_underlying L.t72
 have t70 := L.t70; have a70 := L.a70; have z70 := L.z70; have v70 := L.v70; have u70 := run_underlying L.t70
 have t37 := L.t37; have a37 := L.a37; have z37 := L.z37; have v37 := L.v37; have u37 := run_underlying L.t37
 have t127 := L.t127; have a127 := L.a127; have z127 := L.z127; have v127 := L.v127; have u127 := run_underlying L.t127
 have t3 := L.t3; have a3 := L.a3; have z3 := L.z3; have v3 := L.v3; have u3 := run_underlying L.t3
 have t9 := L.t9; have a9 := L.a9; have z9 := L.z9; have v9 := L.v9; have u9 := run_underlying L.t9
 have t5 := X.t5; have a5 := X.a5; have z5 := X.z5; have v5 := X.v5; have u5 := run_underlying X.t5
 go_enter L.f169, Body.n169_ntmps ρ
 go_wp2
 go_region_o
 all_goals (go_wp2; go_ret; exact ⟨rfl, rfl⟩)
end Go.Proofs
namespace Go.Ev
open Go.Proofs Go.Shelf
section
variable {P : Program} {base : Nat} {ρ : Pl} {H : AH} {w : World}
noncomputable def u8sA (l : List AV) : Option (List UInt8) :=
 List.rec (motive := fun _ => Option (List UInt8)) (some []) (fun a _ ih => match a with | .v (.int .u8 (.ofNat z)) => (match ih with | some r => (match Nat.blt z 256 with | true => some (UInt8.ofNat z :: r) | false => none) | none => none) | _ => none) l
theorem u8sA_spec : ∀ {l : List AV} {bs : List UInt8}, u8sA l = some bs → l = bs.map fun x => .v (.int .u8 x.toNat)
 | [], bs, h => by cases h; rfl
 | a :: l, bs, h => by
   have h : (match (generalizing := false) a with | .v (.int .u8 (.ofNat z)) => (match (generalizing := false) u8sA l with | some r => (match (generalizing := false) Nat.blt z 256 with | true => some (UInt8.ofNat z :: r) | false => none) | none => none) | _ => none) = some bs := h
   split at h
   · rename_i z _
     split at h
     · rename_i r hr
       split at h
       · rename_i hz
         have hz := Nat.le_of_ble_eq_true hz
         cases h
         rw [u8sA_spec hr]
         simp only [List.map_cons]
         congr 2
         congr 1
         show (Int.ofNat z) = ((UInt8.ofNat z).toNat : Int)
         rw [UInt8.toNat_ofNat_of_lt' (by show _ < 256; omega)]
         rfl
       · cases h
     · cases h
   · cases h
theorem Post.lose (hI : Inv base ρ H w) {b n c : Nat} {x0 : AB} (hb : H.get b = some x0) (hr : ρ b = some (n, c)) (w' : World) (hos : w'.os = w.os) (htape : w'.tape = w.tape) (hout : w'.output = w.output) (hsz : w'.heap.size = w.heap.size) (hother : ∀ k, k ≠ n → w'.heap[k]? = w.heap[k]?) : Post base ρ H w ρ (H.set b none) w' := by
 have hlt : b < 2 ^ 39 := Nat.lt_of_lt_of_le (hI.dom _ _ hb) hI.nx
 have p1 := Post.forget hI hb
 have hg : ∀ m y, (H.set b none).get m = some y → H.get m = some y ∧ m ≠ b := fun m y hm => by
   rw [AH.get_set H b _ m hlt] at hm
   by_cases e : m = b <;> simp [e] at hm
   exact ⟨hm, e⟩
 have hn : base ≤ n := by
   obtain ⟨n', c', q1, q2, _⟩ := hI.blk _ _ hb
   rw [hr] at q1; cases q1; exact q2
 refine ⟨p1.le, p1.fresh, p1.nx, ⟨fun m y hm => ?_, p1.inv.inj, p1.inv.dom, p1.inv.nx, by rw [hsz]; exact hI.bs, fun g vs hgl => ?_⟩, fun k hk hno => ?_, p1.own, by rw [hsz]; exact Nat.le_refl _, hos, htape, hout⟩
 · obtain ⟨n2, c2, h1, h2, h3⟩ := p1.inv.blk m y hm
   refine ⟨n2, c2, h1, h2, h3.mono ρ.le_refl (hother n2 fun e => ?_)⟩
   subst e
   exact (hg m y hm).2 (hI.inj _ _ _ _ _ _ _ (hg m y hm).1 hb h1 hr)
 · obtain ⟨h1, e, fz, h2⟩ := hI.gl g vs hgl
   exact ⟨h1, e, fz, by rw [hother g (by omega)]; exact h2⟩
 · exact hother k fun e => hno b x0 n c hb hr e.symm
noncomputable def bsO (g : FuncId) (t72 t5 : TypeId) : CallF := fun f args H =>
 match Nat.beq f g with
 | false => none
 | true =>
   match args with
   | [.ptr b 0] =>
     match H.get b with
     | some (.cells [_, .slu bb 0 n 1] e 0) =>
       match H.get bb with
       | some (.cells cs e5 1) =>
         match u8sA ((cs.drop 0).take n) with
         | some l => if Nat.beq e t72 && Nat.beq e5 t5 && Nat.ble 1 n && Nat.ble n 1000000 && Nat.beq l.length n then some (.v (.string ⟨l.toArray⟩), H.set bb none) else none
         | none => none
       | _ => none
     | _ => none
   | _ => none
theorem bsO_ok {ρn : Ren} (L : Lays.n169 P ρn) (X : Builder.Extra P ρn) : CallOk P (bsO (ρn.f 169) (ρn.t 72) (ρn.t 5)) := by
 intro g args H r H' h hle base ρ w vs hI hf hv
 unfold bsO at h
 split at h
 · cases h
 · rename_i hgb
   obtain rfl := Nat.eq_of_beq_eq_true hgb
   split at h
   · rename_i b
     split at h
     · rename_i c0 bb n e hg
       split at h
       · rename_i cs e5 hgb2
         split at h
         · rename_i l hl
           split at h
           · rename_i hc
             simp only [Bool.and_eq_true] at hc
             obtain ⟨⟨⟨⟨c1, c2⟩, c3⟩, c4⟩, c5⟩ := hc
             obtain rfl := Nat.eq_of_beq_eq_true c1
             obtain rfl := Nat.eq_of_beq_eq_true c2
             have c3 := Nat.le_of_ble_eq_true c3
             have c4 := Nat.le_of_ble_eq_true c4
             have c5 := Nat.eq_of_beq_eq_true c5
             cases h
             cases hv with
             | @cons _ sv _ vs1 hs hv =>
             cases hv with
             | nil =>
             cases hs with
             | @ptr _ _ nb cb hρ =>
             obtain ⟨n', c', q1, _, ys, ex, hy, ⟨fz, hh, hz⟩, hcc, hg0⟩ := hI.blk _ _ hg
             rw [hρ] at q1; cases q1
             obtain rfl := hg0 rfl
             obtain rfl := hz.2.1 rfl
             cases hy with
             | @cons _ y0 _ ys1 h0 hy =>
             cases hy with
             | @cons _ y1 _ ys2 h1 hy =>
             cases hy
             cases h1 with
             | @slu _ _ _ _ nbb cbb hρb =>
             obtain ⟨n', c', q1, _, zs, ex2, hzs, ⟨fz2, hh2, hz2⟩, hcc2, _⟩ := hI.blk _ _ hgb2
             rw [hρb] at q1; cases q1
             subst c5
             have hlen := hzs.length
             have hspec := u8sA_spec hl
             have hll : l.length ≤ cs.length := by
               have := congrArg List.length hspec
               simp at this
               omega
             have hcells : ∀ (j : Nat) (x : UInt8), l[j]? = some x → (zs ++ ex2).toArray[j]? = some (Value.int .u8 x.toNat) := fun j x hj => by
               have hjl := (List.getElem?_eq_some_iff.1 hj).1
               have h2 : ((cs.drop 0).take l.length)[j]? = some (.v (.int .u8 x.toNat)) := by rw [hspec, List.getElem?_map, hj]; rfl
               rw [List.getElem?_take, if_pos hjl, List.drop_zero] at h2
               rcases hzs.get j with ⟨p, q, h3, h4, h5⟩ | ⟨h3, _⟩
               · rw [h2] at h3; cases h3
                 cases h5
                 rw [List.getElem?_toArray, List.getElem?_append_left (by omega)]
                 exact h4
               · rw [h2] at h3; cases h3
             refine (Any.Builder_String_fz L X nb nbb ((cbb - 0) / 1) y0 (zs ++ ex2).toArray fz2 l w hh hh2 hcells (by rw [hcc2]; simp; omega) (by simp; omega) c4 (fun e => by rw [e] at c3; simp at c3)).mono ?_
             rintro e' w' ⟨rfl, rfl⟩
             have hdr := Post.drew hI (w.drawn + 1)
             refine ⟨ρ, _, rfl, .v _, hdr.trans (Post.lose hdr.inv hgb2 hρb _ ?_ ?_ ?_ ?_ ?_)⟩
             · unfold World.freeze; split <;> rfl
             · unfold World.freeze; split <;> rfl
             · unfold World.freeze; split <;> rfl
             · unfold World.freeze; split
               · rfl
               · simp
             · intro k hk
               unfold World.freeze; split
               · rfl
               · simp only [Array.getElem?_modify]
                 rw [if_neg (by omega)]
                 rfl
           · cases h
         · cases h
       · cases h
     · cases h
   · cases h
end
end Go.Ev
