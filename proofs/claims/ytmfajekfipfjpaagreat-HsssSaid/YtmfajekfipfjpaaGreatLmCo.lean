/- Layer 5, the program's side: the nodes of a tree; types of heights.
   Layer 5, the program's side: what a way up comes to; lengths.
   Layer 5, the program's side: types and their heights, lengths, which keys may be. -/
import Derived.Test.YtmfajekfipfjpaaGreatFar
import Derived.Test.YtmfajekfipfjpaaGreatOtsA
import Derived.Test.YtmfajekfipfjpaaGreatLmsAll
import Derived.Test.YtmfajekfipfjpaaGreatOtsB
set_option maxRecDepth 100000
namespace Go.Proofs.YtmfajekfipfjpaaGreat
open Go.RowKit
open Go.Lib (strCells strCells_length strCells_oneCell)
attribute [local irreducible] Sha.compress Sha.blocks Sha.sha Sha.pad

/-- The text of a leaf, of a node. -/
def leafX (id : ByteArray) (r : Nat) (y : List UInt8) : ByteArray := id ++ be 4 r ++ be 2 33410 ++ txt y
def joinX (id : ByteArray) (r : Nat) (a b : List UInt8) : ByteArray := id ++ be 4 r ++ be 2 33667 ++ txt a ++ txt b
theorem leafX_sha (id : ByteArray) (r : Nat) (y : List UInt8) : Sha.sha (leafX id r y).data.toList = Lms.leaf id.data.toList r y := by
  unfold leafX Lms.leaf
  rw [data_append, data_append, data_append, txt_list]
  rfl
theorem joinX_sha (id : ByteArray) (r : Nat) (a b : List UInt8) : Sha.sha (joinX id r a b).data.toList = Lms.join id.data.toList r a b := by
  unfold joinX Lms.join
  rw [data_append, data_append, data_append, data_append, txt_list, txt_list]
  rfl
theorem leafX_size (id : ByteArray) (r : Nat) (y : List UInt8) (hy : y.length = 32) : (leafX id r y).size = id.size + 38 := by
  unfold leafX
  rw [ByteArray.size_append, ByteArray.size_append, ByteArray.size_append, txt_size, be_size, be_size, hy]
theorem joinX_size (id : ByteArray) (r : Nat) (a b : List UInt8) (ha : a.length = 32) (hb : b.length = 32) : (joinX id r a b).size = id.size + 70 := by
  unfold joinX
  rw [ByteArray.size_append, ByteArray.size_append, ByteArray.size_append, ByteArray.size_append, txt_size, txt_size, be_size, be_size, ha, hb]
theorem two_new (w : World) (a b : Obj) : ((w.alloc a).alloc b).heap.size = w.heap.size + 2 ∧ (w.alloc a).heap.size = w.heap.size + 1 := by simp
theorem three_new (w : World) (a b c : Obj) : (((w.alloc a).alloc b).alloc c).heap.size = w.heap.size + 3 ∧ ((w.alloc a).alloc b).heap.size = w.heap.size + 2 ∧ (w.alloc a).heap.size = w.heap.size + 1 := by simp

set_option maxHeartbeats 2000000 in
theorem wayLeaf_any (id : ByteArray) (r : Nat) (y : List UInt8) (w : World) (hi : id.size ≤ 1000000) (hy : y.length = 32) : Calls Tryz.prog 44 #[.string id, .int .i64 (r : Int), hv y] w fun e w' => e = .returned (hv (Lms.leaf id.data.toList r y)) ∧ Below w.heap.size w w' := by
  have hs := hid (fun W => sum_any (leafX id r y) W (by rw [leafX_size id r y hy]; omega))
  unfold hashV at hs
  rw [leafX_sha] at hs
  have hC := hid (hash_cells (Lms.leaf id.data.toList r y) (Ots.sha32 _))
  have hu4 := hid (fun W => U32_any r W)
  have hu2 := hid (fun W => show Calls Tryz.prog 72 #[.int .i64 33410] W fun e w' => e = .returned (.string (be 2 33410)) ∧ Below W.heap.size W w' from U16_any 33410 W)
  have hp4 := be_size 4 r
  have hp2 := be_size 2 33410
  have hvy := hid (fun W g h => hv_text y hy W g h)
  have hty : (txt y).size = 32 := by rw [txt_size, hy]
  have hly := hid (show (byteCells y).length = 32 from by rw [byteCells, List.length_map, hy])
  have hc1 : id.size + (be 4 r).size ≤ 9223372036854775807 := by rw [hp4]; omega
  have hc2 : id.size + (be 4 r).size + (be 2 33410).size ≤ 9223372036854775807 := by rw [hp4, hp2]; omega
  have hc3 : id.size + (be 4 r).size + (be 2 33410).size + (txt y).size ≤ 9223372036854775807 := by rw [hp4, hp2, hty]; omega
  have hX := hid (show id ++ be 4 r ++ be 2 33410 ++ txt y = leafX id r y from rfl)
  clear hp4 hp2 hty
  unfold hv
  generalize byteCells (Lms.leaf id.data.toList r y) = cs at *
  generalize leafX id r y = X at *
  generalize be 4 r = t4 at *
  generalize be 2 33410 = t2 at *
  generalize byteCells y = cy at *
  generalize txt y = ty at *
  obtain ⟨z2, z1⟩ := two_new w (.cells cy.toArray 60) (.cells z32 60)
  obtain ⟨W0, hW0⟩ : ∃ W0, (w.alloc (.cells cy.toArray 60)).alloc (.cells z32 60) = W0 := ⟨_, rfl⟩
  have hY0 : Holds W0 w.heap.size 60 cy := by rw [← hW0]; exact (Holds.new w 60 cy.toArray).alloc _
  have hR0 : Holds W0 (w.heap.size + 1) 60 z32.toList := by rw [← hW0, ← z1]; exact Holds.new _ 60 z32
  have hB0 : Below w.heap.size w W0 := by rw [← hW0]; exact ((Below.refl _ _).alloc (Nat.le_refl _) _).alloc (by simp) _
  have hW0' := hid hW0
  have hz := hid z1
  have hb : Below W0.heap.size W0 W0.drew := (Below.refl _ _).drew
  have hY1 := hid (hY0.below hb hY0.lt)
  have hR1 := hid (hR0.below hb hR0.lt)
  have hB1 := hid (below_up hb hB0)
  clear hb hW0 hB0 hY0 hR0 z1 z2
  go_enter Tryz.func44, Tryz.ntmps44
  go_wp2_with ((with_reducible refine at_slot (some 6) ?_); refine wpList_run rfl (.pointer (some ⟨((w.alloc (.cells cy.toArray 60))).heap.size, 0, none⟩)) ((w.alloc (.cells cy.toArray 60)).alloc (.cells z32 60)) (by kernel_rfl) ?_; rw [hW0'.out, hz.out])
  refine wp_region_held_drew (S := fun W => Holds W (w.heap.size) 60 cy) (by kernel_rfl) (by exact hY1.out) (fun zH => ?_)
  generalize W0.drew = W1 at *
  refine tkx 0 (.string id) zH ?_; simp only [lp]
  refine tkx 1 (.int .i64 (r : Int)) zH ?_; simp only [lp]
  refine tkx 6 (.slice (some ⟨w.heap.size, 0, none⟩) 32 32) zH ?_; simp only [lp]
  refine tkx 7 (.string ty) zH ?_ (hy := .inl ⟨by kernel_rfl, fun W hS => by have hc := hvy.out W _ hS; go_simp⟩); simp only [lp]
  refine wpAnyH_ready (rs := [2]) (by kernel_rfl) (by simp) (AllReadyH.cons rfl (fun K hK => ?_) AllReadyH.nil)
  have hK' := hid hK
  clear hK
  rw [if_pos (by kernel_rfl)]
  simp only [ly1, ly2, ly3]
  go_simp
  refine (hu4.out _).mono ?_
  rintro e W2 ⟨rfl, hb⟩
  have hY2 := zon hb hY1
  have hR2 := zon hb hR1
  have hB2 := zup hb hB1
  clear hb hY1 hR1 hB1
  refine hK'.out _ _ (by exact hY2.out) (fun zH => ?_)
  clear hK' K
  refine tkx 3 (.string (id ++ t4)) zH ?_; simp only [lp]
  refine wpAnyH_ready (rs := [4]) (by kernel_rfl) (by simp) (AllReadyH.cons rfl (fun K hK => ?_) AllReadyH.nil)
  have hK' := hid hK
  clear hK
  rw [if_pos (by kernel_rfl)]
  simp only [ly1, ly2, ly3]
  go_simp
  refine (hu2.out _).mono ?_
  rintro e W3 ⟨rfl, hb⟩
  have hY3 := zon hb hY2
  have hR3 := zon hb hR2
  have hB3 := zup hb hB2
  clear hb hY2 hR2 hB2
  refine hK'.out _ _ (by exact hY3.out) (fun zH => ?_)
  clear hK' K
  refine tkx 5 (.string (id ++ t4 ++ t2)) zH ?_; simp only [lp]
  refine tkx 8 (.string (id ++ t4 ++ t2 ++ ty)) zH ?_; simp only [lp]
  refine wpAnyH_ready (rs := [9]) (by kernel_rfl) (by simp) (AllReadyH.cons rfl (fun K hK => ?_) AllReadyH.nil)
  have hK' := hid hK
  clear hK
  rw [if_pos (by kernel_rfl)]
  simp only [ly1, ly2, ly3]
  go_simp
  rw [hX.out]
  refine (hs.out _).mono ?_
  rintro e W4 ⟨rfl, hb⟩
  have hY4 := zon hb hY3
  have hR4 := zon hb hR3
  have hB4 := zup hb hB3
  clear hb hY3 hR3 hB3
  refine hK'.out _ _ (by exact hY4.out) (fun zH => ?_)
  clear hK' K
  refine wpAnyH_ready (rs := [10]) (by kernel_rfl) (by simp) (AllReadyH.cons rfl (fun K hK => ?_) AllReadyH.nil)
  have hK' := hid hK
  clear hK
  rw [if_pos (by kernel_rfl)]
  simp only [ly1, ly2, ly3]
  skip
  refine wp_store_mid _ _ _ rfl (w.heap.size + 1) 0 cs.toArray rfl rfl (by exact hC.out.there' hR4.out rfl) (by exact hC.out.size) (by exact hC.out.one) ?_
  generalize hXx : World.setCells _ _ _ _ = W5
  obtain ⟨hN, hb⟩ := hC.out.set hR4.out rfl hXx hB4.out (by omega)
  have hY5 := hid (holds_far hY4.out (by omega) hXx)
  have hR5 := hid hN
  have hB5 := hid hb
  clear hXx hN hb hY4 hR4 hB4
  refine hK'.out _ _ (by exact hY5.out) (fun zH => ?_)
  clear hK' K
  refine wpAnyH_done (by kernel_rfl) ?_ _
  go_wp2_with fail
  exact bodyPost_ret (results_cell_row rfl _ _ (w.heap.size + 1) 60 _ (0, 0) _ rfl hR5.out Tryz.underlying60 rfl (by exact hC.out.size)) rfl ⟨rfl, hB5.out⟩

set_option maxHeartbeats 2000000 in
theorem wayJoin_any (id : ByteArray) (r : Nat) (a b : List UInt8) (w : World) (hi : id.size ≤ 1000000) (ha : a.length = 32) (hb : b.length = 32) : Calls Tryz.prog 53 #[.string id, .int .i64 (r : Int), hv a, hv b] w fun e w' => e = .returned (hv (Lms.join id.data.toList r a b)) ∧ Below w.heap.size w w' := by
  have hs := hid (fun W => sum_any (joinX id r a b) W (by rw [joinX_size id r a b ha hb]; omega))
  unfold hashV at hs
  rw [joinX_sha] at hs
  have hC := hid (hash_cells (Lms.join id.data.toList r a b) (Ots.sha32 _))
  have hu4 := hid (fun W => U32_any r W)
  have hu2 := hid (fun W => show Calls Tryz.prog 72 #[.int .i64 33667] W fun e w' => e = .returned (.string (be 2 33667)) ∧ Below W.heap.size W w' from U16_any 33667 W)
  have hp4 := be_size 4 r
  have hp2 := be_size 2 33667
  have hva := hid (fun W g h => hv_text a ha W g h)
  have hta : (txt a).size = 32 := by rw [txt_size, ha]
  have hla := hid (show (byteCells a).length = 32 from by rw [byteCells, List.length_map, ha])
  have hvb := hid (fun W g h => hv_text b hb W g h)
  have htb : (txt b).size = 32 := by rw [txt_size, hb]
  have hlb := hid (show (byteCells b).length = 32 from by rw [byteCells, List.length_map, hb])
  have hc1 : id.size + (be 4 r).size ≤ 9223372036854775807 := by rw [hp4]; omega
  have hc2 : id.size + (be 4 r).size + (be 2 33667).size ≤ 9223372036854775807 := by rw [hp4, hp2]; omega
  have hc3 : id.size + (be 4 r).size + (be 2 33667).size + (txt a).size ≤ 9223372036854775807 := by rw [hp4, hp2, hta]; omega
  have hc4 : id.size + (be 4 r).size + (be 2 33667).size + (txt a).size + (txt b).size ≤ 9223372036854775807 := by rw [hp4, hp2, hta, htb]; omega
  have hX := hid (show id ++ be 4 r ++ be 2 33667 ++ txt a ++ txt b = joinX id r a b from rfl)
  clear hp4 hp2 hta htb
  unfold hv
  generalize byteCells (Lms.join id.data.toList r a b) = cs at *
  generalize joinX id r a b = X at *
  generalize be 4 r = t4 at *
  generalize be 2 33667 = t2 at *
  generalize byteCells a = ca at *
  generalize byteCells b = cb at *
  generalize txt a = ta at *
  generalize txt b = tb at *
  obtain ⟨z3, z2, z1⟩ := three_new w (.cells ca.toArray 60) (.cells cb.toArray 60) (.cells z32 60)
  obtain ⟨W0, hW0⟩ : ∃ W0, ((w.alloc (.cells ca.toArray 60)).alloc (.cells cb.toArray 60)).alloc (.cells z32 60) = W0 := ⟨_, rfl⟩
  have hP0 : Holds W0 w.heap.size 60 ca := by rw [← hW0]; exact ((Holds.new w 60 ca.toArray).alloc _).alloc _
  have hQ0 : Holds W0 (w.heap.size + 1) 60 cb := by rw [← hW0, ← z1]; exact (Holds.new _ 60 cb.toArray).alloc _
  have hR0 : Holds W0 (w.heap.size + 2) 60 z32.toList := by rw [← hW0, ← z2]; exact Holds.new _ 60 z32
  have hB0 : Below w.heap.size w W0 := by rw [← hW0]; exact (((Below.refl _ _).alloc (Nat.le_refl _) _).alloc (by simp) _).alloc (by simp; omega) _
  have hW0' := hid hW0
  have hz := hid z2
  have hb : Below W0.heap.size W0 W0.drew := (Below.refl _ _).drew
  have hP1 := hid (hP0.below hb hP0.lt)
  have hQ1 := hid (hQ0.below hb hQ0.lt)
  have hR1 := hid (hR0.below hb hR0.lt)
  have hB1 := hid (below_up hb hB0)
  clear hb hW0 hB0 hP0 hQ0 hR0 z1 z2 z3
  go_enter Tryz.func53, Tryz.ntmps53
  go_wp2_with ((with_reducible refine at_slot (some 8) ?_); refine wpList_run rfl (.pointer (some ⟨(((w.alloc (.cells ca.toArray 60)).alloc (.cells cb.toArray 60))).heap.size, 0, none⟩)) (((w.alloc (.cells ca.toArray 60)).alloc (.cells cb.toArray 60)).alloc (.cells z32 60)) (by kernel_rfl) ?_; rw [hW0'.out, hz.out])
  refine wp_region_held_drew (S := fun W => Holds W (w.heap.size) 60 ca ∧ Holds W (w.heap.size + 1) 60 cb) (by kernel_rfl) (by exact ⟨hP1.out, hQ1.out⟩) (fun zH => ?_)
  generalize W0.drew = W1 at *
  refine tkx 0 (.string id) zH ?_; simp only [lp]
  refine tkx 1 (.int .i64 (r : Int)) zH ?_; simp only [lp]
  refine tkx 6 (.slice (some ⟨w.heap.size, 0, none⟩) 32 32) zH ?_; simp only [lp]
  refine tkx 7 (.string ta) zH ?_ (hy := .inl ⟨by kernel_rfl, fun W hS => by have hc := hva.out W _ hS.1; go_simp⟩); simp only [lp]
  refine tkx 9 (.slice (some ⟨w.heap.size + 1, 0, none⟩) 32 32) zH ?_; simp only [lp]
  refine tkx 10 (.string tb) zH ?_ (hy := .inl ⟨by kernel_rfl, fun W hS => by have hc := hvb.out W _ hS.2; go_simp⟩); simp only [lp]
  refine wpAnyH_ready (rs := [2]) (by kernel_rfl) (by simp) (AllReadyH.cons rfl (fun K hK => ?_) AllReadyH.nil)
  have hK' := hid hK
  clear hK
  rw [if_pos (by kernel_rfl)]
  simp only [ly1, ly2, ly3]
  go_simp
  refine (hu4.out _).mono ?_
  rintro e W2 ⟨rfl, hb⟩
  have hP2 := zon hb hP1
  have hQ2 := zon hb hQ1
  have hR2 := zon hb hR1
  have hB2 := zup hb hB1
  clear hb hP1 hQ1 hR1 hB1
  refine hK'.out _ _ (by exact ⟨hP2.out, hQ2.out⟩) (fun zH => ?_)
  clear hK' K
  refine tkx 3 (.string (id ++ t4)) zH ?_; simp only [lp]
  refine wpAnyH_ready (rs := [4]) (by kernel_rfl) (by simp) (AllReadyH.cons rfl (fun K hK => ?_) AllReadyH.nil)
  have hK' := hid hK
  clear hK
  rw [if_pos (by kernel_rfl)]
  simp only [ly1, ly2, ly3]
  go_simp
  refine (hu2.out _).mono ?_
  rintro e W3 ⟨rfl, hb⟩
  have hP3 := zon hb hP2
  have hQ3 := zon hb hQ2
  have hR3 := zon hb hR2
  have hB3 := zup hb hB2
  clear hb hP2 hQ2 hR2 hB2
  refine hK'.out _ _ (by exact ⟨hP3.out, hQ3.out⟩) (fun zH => ?_)
  clear hK' K
  refine tkx 5 (.string (id ++ t4 ++ t2)) zH ?_; simp only [lp]
  refine tkx 8 (.string (id ++ t4 ++ t2 ++ ta)) zH ?_; simp only [lp]
  refine tkx 11 (.string (id ++ t4 ++ t2 ++ ta ++ tb)) zH ?_; simp only [lp]
  refine wpAnyH_ready (rs := [12]) (by kernel_rfl) (by simp) (AllReadyH.cons rfl (fun K hK => ?_) AllReadyH.nil)
  have hK' := hid hK
  clear hK
  rw [if_pos (by kernel_rfl)]
  simp only [ly1, ly2, ly3]
  go_simp
  rw [hX.out]
  refine (hs.out _).mono ?_
  rintro e W4 ⟨rfl, hb⟩
  have hP4 := zon hb hP3
  have hQ4 := zon hb hQ3
  have hR4 := zon hb hR3
  have hB4 := zup hb hB3
  clear hb hP3 hQ3 hR3 hB3
  refine hK'.out _ _ (by exact ⟨hP4.out, hQ4.out⟩) (fun zH => ?_)
  clear hK' K
  refine wpAnyH_ready (rs := [13]) (by kernel_rfl) (by simp) (AllReadyH.cons rfl (fun K hK => ?_) AllReadyH.nil)
  have hK' := hid hK
  clear hK
  rw [if_pos (by kernel_rfl)]
  simp only [ly1, ly2, ly3]
  skip
  refine wp_store_mid _ _ _ rfl (w.heap.size + 2) 0 cs.toArray rfl rfl (by exact hC.out.there' hR4.out rfl) (by exact hC.out.size) (by exact hC.out.one) ?_
  generalize hXx : World.setCells _ _ _ _ = W5
  obtain ⟨hN, hb⟩ := hC.out.set hR4.out rfl hXx hB4.out (by omega)
  have hP5 := hid (holds_far hP4.out (by omega) hXx)
  have hQ5 := hid (holds_far hQ4.out (by omega) hXx)
  have hR5 := hid hN
  have hB5 := hid hb
  clear hXx hN hb hP4 hQ4 hR4 hB4
  refine hK'.out _ _ (by exact ⟨hP5.out, hQ5.out⟩) (fun zH => ?_)
  clear hK' K
  refine wpAnyH_done (by kernel_rfl) ?_ _
  go_wp2_with fail
  exact bodyPost_ret (results_cell_row rfl _ _ (w.heap.size + 2) 60 _ (0, 0) _ rfl hR5.out Tryz.underlying60 rfl (by exact hC.out.size)) rfl ⟨rfl, hB5.out⟩

theorem TypeOf_any (h : Nat) (hh : h ≤ 1000) (w : World) : Calls Tryz.prog 31 #[.int .i64 (h : Int)] w fun e w' => e = .returned (.int .i64 (Lms.typ h : Int)) ∧ w' = w := by
  by_cases h5 : h = 5
  · subst h5
    go_enter Tryz.func31, Tryz.ntmps31
    go_wp2
    go_ret
    exact ⟨rfl, rfl⟩
  · have h5i : ((h : Int) == 5) = false := by rw [beq_eq_false_iff_ne]; omega
    have hw := IntWalk.i64_in (4026531840 + (h : Int)) (by omega)
    have e : Lms.typ h = 4026531840 + h := if_neg h5
    rw [e]
    go_enter Tryz.func31, Tryz.ntmps31
    go_wp2
    go_ret
    exact ⟨by go_num, rfl⟩

theorem HeightMay_any (h : Int) (w : World) : Calls Tryz.prog 28 #[.int .i64 h] w fun e w' => e = .returned (.bool (decide (1 ≤ h ∧ h ≤ 5))) ∧ w' = w := by
  by_cases h1 : 1 ≤ h
  · by_cases h5 : h ≤ 5
    · go_enter Tryz.func28, Tryz.ntmps28
      go_wp2
      go_ret
      exact ⟨by simp [h1, h5], rfl⟩
    · go_enter Tryz.func28, Tryz.ntmps28
      go_wp2
      go_ret
      exact ⟨by simp [h5], rfl⟩
  · go_enter Tryz.func28, Tryz.ntmps28
    go_wp2
    go_ret
    exact ⟨by simp; omega, rfl⟩

end Go.Proofs.YtmfajekfipfjpaaGreat
namespace Go.Proofs.YtmfajekfipfjpaaGreat
open Go.RowKit
open Go.Lib (strCells strCells_length strCells_oneCell)
attribute [local irreducible] Sha.compress Sha.blocks Sha.sha Sha.pad

theorem cut_front (s : ByteArray) (k : Nat) (_h : k ≤ s.size) : (s.extract k s.size).data.toList = s.data.toList.drop k := by
  simp only [ByteArray.data_extract, Array.toList_extract, List.extract_eq_take_drop]
  rw [List.take_of_length_le (by rw [List.length_drop, data_length]; exact Nat.le_refl _)]
theorem cut_front_size (s : ByteArray) (k : Nat) (h : k ≤ s.size) : (s.extract k s.size).size = s.size - k := by
  rw [← data_length, cut_front s k h, List.length_drop, data_length]

set_option maxHeartbeats 4000000 in
theorem wayRoot_any (id : ByteArray) (r n : Nat) (x : List UInt8) (s : ByteArray) (w : World) (hi : id.size ≤ 1000000) (hx : x.length = 32) (h1 : 2 ^ n ≤ r) (h2 : r < 2 ^ (n + 1)) (hn : n ≤ 20) (hs : s.size = 32 * n) :
    Calls Tryz.prog 43 #[.string id, .int .i64 (r : Int), hv x, .string s] w fun e w' => e = .returned (hv (Lms.climb id.data.toList (Lms.cuts s.data.toList n) r x)) ∧ Below w.heap.size w w' := by
  obtain ⟨R, hR⟩ : ∃ R, Lms.climb id.data.toList (Lms.cuts s.data.toList n) r x = R := ⟨_, rfl⟩
  rw [hR]
  obtain ⟨z2, z1⟩ := two_new w (.cells (byteCells x).toArray 60) (.cells z32 60)
  obtain ⟨W0, hW0⟩ : ∃ W0, (w.alloc (.cells (byteCells x).toArray 60)).alloc (.cells z32 60) = W0 := ⟨_, rfl⟩
  have hX0 : Holds W0 w.heap.size 60 (byteCells x) := by rw [← hW0]; exact (Holds.new w 60 (byteCells x).toArray).alloc _
  have hZ0 : Holds W0 (w.heap.size + 1) 60 z32.toList := by rw [← hW0, ← z1]; exact Holds.new _ 60 z32
  have hB0 : Below w.heap.size w W0 := by rw [← hW0]; exact ((Below.refl _ _).alloc (Nat.le_refl _) _).alloc (by simp) _
  have hW0' := hid hW0
  have hz := hid z1
  have hX0' := hid hX0
  have hZ0' := hid hZ0
  have hB0' := hid hB0
  have hR' := hid hR
  have hp1 := hid h1
  have hp2 := hid h2
  have hs' := hid hs
  clear z2 z1 hW0 hX0 hZ0 hB0 hR h1 h2 hs
  unfold hv
  go_enter Tryz.func43, Tryz.ntmps43
  go_wp2_with ((with_reducible refine at_slot (some 8) ?_); refine wpList_run rfl (.pointer (some ⟨(w.alloc (.cells (byteCells x).toArray 60)).heap.size, 0, none⟩)) ((w.alloc (.cells (byteCells x).toArray 60)).alloc (.cells z32 60)) (by kernel_rfl) ?_; rw [hW0'.out, hz.out])
  go_frame
  go_loopw [1, 3] (fun rv sv wr => ∃ (m q : Nat) (t : ByteArray) (y : List UInt8), rv = .int .i64 (q : Int) ∧ sv = .string t ∧ m ≤ 20 ∧ 2 ^ m ≤ q ∧ q < 2 ^ (m + 1) ∧ t.size = 32 * m ∧ y.length = 32 ∧ Holds wr w.heap.size 60 (byteCells y) ∧ Holds wr (w.heap.size + 1) 60 z32.toList ∧ Lms.climb id.data.toList (Lms.cuts t.data.toList m) q y = R ∧ Below w.heap.size w wr) (fun rv _ _ => (intOf rv).toNat)
  case atStart => exact ⟨n, r, s, x, rfl, rfl, hn, hp1.out, hp2.out, hs'.out, hx, hX0'.out, hZ0'.out, hR'.out, hB0'.out⟩
  case round =>
    obtain ⟨m, q, t, y, rfl, rfl, hm, hq1, hq2, ht, hy, hH, hZ, hc, hB⟩ := hrel
    have hH' := hid hH
    have hZ' := hid hZ
    have hB' := hid hB
    have hc' := hid hc
    have hCy := hid (hash_cells y hy)
    clear hH hZ hB hc
    have hp20 : 2 ^ (m + 1) ≤ 2 ^ 21 := Nat.pow_le_pow_right (by decide) (by omega)
    by_cases h1 : 1 < q
    · obtain ⟨k, rfl⟩ : ∃ k, m = k + 1 := by
        cases m with
        | zero => simp at hq2; omega
        | succ k => exact ⟨k, rfl⟩
      have hpk : 2 ^ (k + 1) = 2 * 2 ^ k := by rw [Nat.pow_succ, Nat.mul_comm]
      have hpk2 : 2 ^ (k + 1 + 1) = 2 * 2 ^ (k + 1) := by rw [Nat.pow_succ 2 (k + 1), Nat.mul_comm]
      have hb1 : 2 ^ k ≤ q / 2 := by omega
      have hb2 : q / 2 < 2 ^ (k + 1) := by omega
      have hl := data_length t
      have hol : (t.data.toList.take 32).length = 32 := by rw [List.length_take, hl]; omega
      obtain ⟨v, hv'⟩ : ∃ v, t.data.toList.take 32 = v := ⟨_, rfl⟩
      rw [hv'] at hol
      have hCv := hid (hash_cells v hol)
      have hcl : Lms.climb id.data.toList (Lms.cuts t.data.toList (k + 1)) q y = Lms.climb id.data.toList (Lms.cuts (t.extract 32 t.size).data.toList k) (q / 2) (if q % 2 = 0 then Lms.join id.data.toList (q / 2) y v else Lms.join id.data.toList (q / 2) v y) := by
        rw [Lms.cuts, Lms.climb, hv', cut_front t 32 (by omega)]
      have hcl' := hid (hcl.symm.trans hc'.out)
      have hts := hid (cut_front_size t 32 (by omega))
      have hj1 := hid (fun W => wayJoin_any id (q / 2) y v W hi hy hol)
      have hj2 := hid (fun W => wayJoin_any id (q / 2) v y W hi hol hy)
      have hjl : ∀ a b, (Lms.join id.data.toList (q / 2) a b).length = 32 := fun a b => Lms.join_len _ _ _ _
      have hCa := hid (hash_cells _ (hjl y v))
      have hCb := hid (hash_cells _ (hjl v y))
      have hjl' := hid hjl
      have h1i : (1 : Int) < (q : Int) := by omega
      have hts2 : (32 : Int) ≤ (t.size : Int) := by omega
      have hv2 := hid hv'
      have hcp := run_copy_min (P := Tryz.prog) (wr.alloc (.cells z32 60)) 65 9 3 5 wr.heap.size 0 32 32 t Tryz.underlying65 sizeU8 (Holds.there (Holds.new wr 60 z32) 0 32 (by decide))
      rw [hv'] at hcp
      obtain ⟨W1, hW1⟩ : ∃ W1, (wr.alloc (.cells z32 60)).setCells wr.heap.size 0 (byteCells v) = W1 := ⟨_, rfl⟩
      rw [hW1] at hcp
      generalize goInt _ = gi at hcp
      obtain ⟨hV1, hb1'⟩ := hCv.out.new hW1
      have hV := hid hV1
      have hH1 := hid (hH'.out.below hb1' hH'.out.lt)
      have hZ1 := hid (hZ'.out.below hb1' hZ'.out.lt)
      have hB1 := hid (below_up hb1' hB'.out)
      have hlt := hid hZ'.out.lt
      unfold hv at hj1 hj2
      clear hcl hjl hl hc' hv' hV1 hb1' hW1 hH' hZ' hB'
      have ht' := hid ht
      clear ht
      obtain ⟨u, hu⟩ : ∃ u, q / 2 = u := ⟨_, rfl⟩
      rw [hu] at hb1 hb2 hcl' hj1 hj2 hCa hCb hjl'
      have hqw := IntWalk.i64_in (u : Int) (by omega)
      have htd : (q : Int).tdiv 2 = (u : Int) := by rw [Int.tdiv_eq_ediv_of_nonneg (by omega)]; omega
      clear hu
      by_cases he : q % 2 = 0
      · have hmod : (q : Int).tmod 2 = 0 := by rw [Int.tmod_eq_emod_of_nonneg (by omega)]; omega
        rw [if_pos he] at hcl'
        generalize hJ : Lms.join id.data.toList u y v = z at *
        have hz32 := hid (hJ ▸ hjl'.out y v)
        clear hJ hj2 hCb
        go_wp2_with (first
          | ((with_reducible refine at_slot (some 9) ?_); refine wpList_run rfl (.pointer (some ⟨wr.heap.size, 0, none⟩)) (wr.alloc (.cells z32 60)) (by kernel_rfl) ?_)
          | ((with_reducible refine at_slot (some 16) ?_); refine Lib.wpList_copy_run _ rfl _ _ 65 9 rfl _ _ rfl rfl (by exact hcp) ?_)
          | ((with_reducible refine at_slot (some 25) ?_); refine wpList_load_mid rfl 60 (.tmp 6) rfl w.heap.size 0 rfl (byteCells y) _ (by exact h_all hH1.out) Tryz.underlying60 rfl (by exact hCy.out.size') ?_)
          | ((with_reducible refine at_slot (some 26) ?_); refine wpList_load_mid rfl 60 (.tmp 9) rfl wr.heap.size 0 rfl (byteCells v) _ (by exact h_all hV.out) Tryz.underlying60 rfl (by exact hCv.out.size') ?_)
          | fail)
        refine (hj1.out _).mono ?_
        rintro e W2 ⟨rfl, hb2x⟩
        have hH2 := hid (hH1.out.below hb2x hH1.out.lt); have hZ2 := hid (hZ1.out.below hb2x hZ1.out.lt); have hB2 := hid (below_up hb2x hB1.out)
        clear hb2x
        go_wp2_with (first
          | ((with_reducible refine at_slot none ?_); refine wpList_store_mid rfl 60 (.tmp 6) (.tmp 27) rfl w.heap.size 0 (byteCells z).toArray rfl rfl (by exact hCa.out.there' hH2.out (by rw [hCy.out.len])) (by exact hCa.out.size) (by exact hCa.out.one) ?_; generalize hW3 : World.setCells _ _ _ _ = W3; obtain ⟨hN, hb⟩ := hCa.out.set (w := w) hH2.out (by rw [hCy.out.len]) hW3 hB2.out (Nat.le_refl _); have hH3 := hid hN; have hB3 := hid hb; have hZ3 := hid (holds_far hZ2.out (by omega) hW3); clear hW3 hN hb)
          | fail)
        go_roundw
        case rel => exact ⟨k, u, t.extract 32 t.size, z, by go_num, rfl, by omega, hb1, hb2, by rw [hts.out, ht'.out]; omega, hz32.out, hH3.out, hZ3.out, hcl'.out, hB3.out⟩
        case measure => simp [intOf]; omega
      · have hmod : (q : Int).tmod 2 = 1 := by rw [Int.tmod_eq_emod_of_nonneg (by omega)]; omega
        rw [if_neg he] at hcl'
        generalize hJ : Lms.join id.data.toList u v y = z at *
        have hz32 := hid (hJ ▸ hjl'.out v y)
        clear hJ hj1 hCa
        go_wp2_with (first
          | ((with_reducible refine at_slot (some 9) ?_); refine wpList_run rfl (.pointer (some ⟨wr.heap.size, 0, none⟩)) (wr.alloc (.cells z32 60)) (by kernel_rfl) ?_)
          | ((with_reducible refine at_slot (some 16) ?_); refine Lib.wpList_copy_run _ rfl _ _ 65 9 rfl _ _ rfl rfl (by exact hcp) ?_)
          | ((with_reducible refine at_slot (some 31) ?_); refine wpList_load_mid rfl 60 (.tmp 9) rfl wr.heap.size 0 rfl (byteCells v) _ (by exact h_all hV.out) Tryz.underlying60 rfl (by exact hCv.out.size') ?_)
          | ((with_reducible refine at_slot (some 32) ?_); refine wpList_load_mid rfl 60 (.tmp 6) rfl w.heap.size 0 rfl (byteCells y) _ (by exact h_all hH1.out) Tryz.underlying60 rfl (by exact hCy.out.size') ?_)
          | fail)
        refine (hj2.out _).mono ?_
        rintro e W2 ⟨rfl, hb2x⟩
        have hH2 := hid (hH1.out.below hb2x hH1.out.lt); have hZ2 := hid (hZ1.out.below hb2x hZ1.out.lt); have hB2 := hid (below_up hb2x hB1.out)
        clear hb2x
        go_wp2_with (first
          | ((with_reducible refine at_slot none ?_); refine wpList_store_mid rfl 60 (.tmp 6) (.tmp 33) rfl w.heap.size 0 (byteCells z).toArray rfl rfl (by exact hCb.out.there' hH2.out (by rw [hCy.out.len])) (by exact hCb.out.size) (by exact hCb.out.one) ?_; generalize hW3 : World.setCells _ _ _ _ = W3; obtain ⟨hN, hb⟩ := hCb.out.set (w := w) hH2.out (by rw [hCy.out.len]) hW3 hB2.out (Nat.le_refl _); have hH3 := hid hN; have hB3 := hid hb; have hZ3 := hid (holds_far hZ2.out (by omega) hW3); clear hW3 hN hb)
          | fail)
        go_roundw
        case rel => exact ⟨k, u, t.extract 32 t.size, z, by go_num, rfl, by omega, hb1, hb2, by rw [hts.out, ht'.out]; omega, hz32.out, hH3.out, hZ3.out, hcl'.out, hB3.out⟩
        case measure => simp [intOf]; omega
    · have h1i : ¬ (1 : Int) < (q : Int) := by omega
      obtain rfl : m = 0 := by
        cases m with
        | zero => rfl
        | succ k =>
          have : 2 ^ 1 ≤ 2 ^ (k + 1) := Nat.pow_le_pow_right (by decide) (by omega)
          omega
      have hyR := hid (show y = R from hc'.out)
      clear hc'
      go_wp2_with (first
        | ((with_reducible refine at_slot (some 34) ?_); refine wpList_load_mid rfl 60 (.tmp 6) rfl w.heap.size 0 rfl (byteCells y) _ (by exact h_all hH'.out) Tryz.underlying60 rfl (by exact hCy.out.size') ?_)
        | ((with_reducible refine at_slot none ?_); refine wpList_store_mid rfl 60 (.tmp 8) (.tmp 34) rfl (w.heap.size + 1) 0 (byteCells y).toArray rfl rfl (by exact hCy.out.there' hZ'.out rfl) (by exact hCy.out.size) (by exact hCy.out.one) ?_; generalize hW3 : World.setCells _ _ _ _ = W3; obtain ⟨hN, hb⟩ := hCy.out.set (w := w) hZ'.out rfl hW3 hB'.out (by omega); have hZ3 := hid hN; have hB3 := hid hb; clear hW3 hN hb)
        | fail)
      exact bodyPost_ret (results_cell_row rfl _ _ (w.heap.size + 1) 60 _ (0, 0) _ rfl hZ3.out Tryz.underlying60 rfl (by exact hCy.out.size)) rfl ⟨by rw [hyR.out], hB3.out⟩

end Go.Proofs.YtmfajekfipfjpaaGreat
namespace Go.Proofs.YtmfajekfipfjpaaGreat
open Go.RowKit
attribute [local irreducible] Sha.compress Sha.blocks Sha.sha Sha.pad

/-- A type's height; is there one? -/
def hgt (t : Nat) : Nat := (Lms.heightOf t).getD 0
def hgtIs (t : Nat) : Bool := (Lms.heightOf t).isSome
theorem hgt_yes {t k : Nat} (h1 : 1 ≤ k) (h5 : k ≤ 5) (h : Lms.typ k = t) : hgt t = k ∧ hgtIs t = true := by
  subst h
  unfold hgt hgtIs
  rw [Lms.heightOf_typ k h1 h5]
  exact ⟨rfl, rfl⟩
theorem hgt_no {t : Nat} (h : ∀ j, 1 ≤ j → j < 6 → Lms.typ j ≠ t) : hgt t = 0 ∧ hgtIs t = false := by
  have a1 : 4026531841 ≠ t := h 1 (by decide) (by decide)
  have a2 : 4026531842 ≠ t := h 2 (by decide) (by decide)
  have a3 : 4026531843 ≠ t := h 3 (by decide) (by decide)
  have a4 : 4026531844 ≠ t := h 4 (by decide) (by decide)
  have a5 : 5 ≠ t := h 5 (by decide) (by decide)
  unfold hgt hgtIs Lms.heightOf
  rw [if_neg (by omega), if_neg (by omega)]
  exact ⟨rfl, rfl⟩

set_option maxHeartbeats 600000 in
theorem HeightOf_any (t : Nat) (w : World) : Calls Tryz.prog 93 #[.int .i64 (t : Int)] w fun e w' => e = .returned (.tuple #[.int .i64 (hgt t : Int), .bool (hgtIs t)]) ∧ Below w.heap.size w w' := by
  go_enter Tryz.func93, Tryz.ntmps93
  go_wp2_with fail
  go_loopw [4] (fun i wr => ∃ k : Nat, 1 ≤ k ∧ k ≤ 6 ∧ i = .int .i64 (k : Int) ∧ (∀ j, 1 ≤ j → j < k → Lms.typ j ≠ t) ∧ Below w.heap.size w wr) (fun i _ => 6 - (intOf i).toNat)
  case atStart => exact ⟨1, by omega, by omega, rfl, fun j h1 h2 => by omega, Below.refl _ _⟩
  case round =>
    obtain ⟨k, h1, h6, rfl, hno, hB⟩ := hrel
    have hno' := hid hno
    clear hno
    by_cases h5 : k ≤ 5
    · have h5i : (k : Int) ≤ 5 := by omega
      have u1 := IntWalk.i64_in ((k : Int) + 1) (by omega)
      go_wp2_with fail
      refine (TypeOf_any k (by omega) _).mono ?_
      rintro e w' ⟨rfl, rfl⟩
      obtain ⟨y, hy⟩ : ∃ y, Lms.typ k = y := ⟨_, rfl⟩
      rw [hy]
      by_cases he : y = t
      · have hyes := hid (hgt_yes h1 h5 (hy.trans he))
        have hei : ((y : Int) == (t : Int)) = true := by simp [he]
        clear hy
        go_wp2_with fail
        go_ret2
        exact ⟨by rw [hyes.out.1, hyes.out.2]; rfl, hB⟩
      · have hei : ((y : Int) == (t : Int)) = false := by
          rw [beq_eq_false_iff_ne]
          omega
        go_wp2_with fail
        go_roundw
        case rel => exact ⟨k + 1, by omega, by omega, by go_num, fun j j1 j2 => by
          rcases Nat.lt_succ_iff_lt_or_eq.1 j2 with h | rfl
          · exact hno'.out j j1 h
          · rw [hy]; exact he, hB⟩
        case measure => simp [intOf]; omega
    · have h5i : ¬ (k : Int) ≤ 5 := by omega
      have hz := hid (hgt_no (t := t) (fun j j1 j2 => hno'.out j j1 (by omega)))
      go_wp2_with fail
      go_ret2
      exact ⟨by rw [hz.out.1, hz.out.2]; rfl, hB⟩

theorem TreeLength_any (o : Ots.Par) (h : Nat) (ho : o.p ≤ 100) (hh : h ≤ 5) (w : World) : Calls Tryz.prog 81 #[.agg (parC o), .int .i64 (h : Int)] w fun e w' => e = .returned (.int .i64 ((44 + 32 * o.p + 32 * h : Nat) : Int)) ∧ Below w.heap.size w w' := by
  obtain ⟨c, hc⟩ : ∃ c, parC o = c := ⟨_, rfl⟩
  have hsz : c.size = 3 := by rw [← hc]; rfl
  have hL := hid (fun W => Length_any o ho W)
  rw [hc] at hL ⊢
  obtain ⟨W0, hW0⟩ : ∃ W0, w.alloc (.cells c 54) = W0 := ⟨_, rfl⟩
  have hH0 := hid (show Holds W0 w.heap.size 54 c.toList from by rw [← hW0]; exact Holds.new _ _ _)
  have hB0 := hid (show Below w.heap.size w W0 from by rw [← hW0]; exact (Below.refl _ _).alloc (Nat.le_refl _) _)
  have hW0' := hid hW0
  have s1 := IntWalk.i64_in (8 + ((36 + 32 * o.p : Nat) : Int)) (by omega)
  have s2 := IntWalk.i64_in ((h : Int) * 32) (by omega)
  have s3 := IntWalk.i64_in (8 + ((36 + 32 * o.p : Nat) : Int) + (h : Int) * 32) (by omega)
  obtain ⟨z, hz⟩ : ∃ z, 36 + 32 * o.p = z := ⟨_, rfl⟩
  rw [hz] at hL s1 s3
  have hz' := hid hz
  have hsp := hid (par_size c hsz)
  clear hz hW0 hc
  go_enter Tryz.func81, Tryz.ntmps81
  go_wp2_with (first
    | ((with_reducible refine at_slot (some 2) ?_); refine wpList_run rfl (.pointer (some ⟨w.heap.size, 0, none⟩)) (w.alloc (.cells c 54)) (by kernel_rfl) ?_; rw [hW0'.out])
    | ((with_reducible refine at_slot (some 5) ?_); refine wpList_load_mid rfl 54 (.tmp 2) rfl w.heap.size 0 rfl c.toList _ (by exact h_all hH0.out) Tryz.underlying54 rfl (by exact hsp.out) ?_)
    | fail)
  refine (hL.out _).mono ?_
  rintro e w' ⟨rfl, hb⟩
  go_wp2_with fail
  go_ret
  exact ⟨congrArg (fun x => Ending.returned (.int .i64 x)) (by have := hz'.out; omega), below_up hb hB0.out⟩

theorem shl_wrap (k : Nat) (h : k ≤ 5) : IntKind.i64.wrap (2 ^ k) = ((2 ^ k : Nat) : Int) := by
  have hc : k = 0 ∨ k = 1 ∨ k = 2 ∨ k = 3 ∨ k = 4 ∨ k = 5 := by omega
  rcases hc with rfl | rfl | rfl | rfl | rfl | rfl <;> decide
theorem Holds.c {w : World} {g : Nat} {t : TypeId} {cs : List Value} (h : Holds w g t cs) (j : Nat) (v : Value) (hv : cs[j]? = some v) : w.cell? ⟨g, j, none⟩ = some v := by rw [h.cell, hv]

/-- May a key be? -/
def keyOk (o ht : Int) (id seed : ByteArray) (nx : Int) : Bool := (Ots.par o).isSome && (decide (1 ≤ ht ∧ ht ≤ 5) && (decide (id.size = 16) && (decide (seed.size = 32) && (decide (0 ≤ nx) && decide (nx ≤ ((2 ^ ht.toNat : Nat) : Int))))))
/-- A key's cells. -/
def keyC (o ht : Int) (id seed : ByteArray) (nx : Int) : List Value := [.int .i64 o, .int .i64 ht, .string id, .string seed, .int .i64 nx]

set_option maxHeartbeats 4000000 in
theorem lmsMay_any (o ht : Int) (id seed : ByteArray) (nx : Int) (w : World) : Calls Tryz.prog 29 #[.agg #[.int .i64 o, .int .i64 ht, .string id, .string seed, .int .i64 nx]] w fun e w' => e = .returned (.bool (keyOk o ht id seed nx)) ∧ Below w.heap.size w w' := by
  obtain ⟨R, hR⟩ : ∃ R, keyOk o ht id seed nx = R := ⟨_, rfl⟩
  rw [hR]
  unfold keyOk at hR
  obtain ⟨cs, ok, hans, ⟨hcs, h1c⟩, hok⟩ : ∃ cs ok, parAns o = .tuple #[.agg cs, .bool ok] ∧ (cs.size = 3 ∧ cs.all (·.oneCell') = true) ∧ (Ots.par o).isSome = ok := by
    unfold parAns
    cases hp : Ots.par o with
    | none => exact ⟨noC, false, rfl, ⟨rfl, by simp [noC, Value.oneCell']⟩, rfl⟩
    | some p => exact ⟨parC p, true, rfl, ⟨rfl, by simp [parC, Value.oneCell']⟩, rfl⟩
  rw [hok] at hR
  have hR' := hid hR
  have hans' := hid hans
  clear hans hR hok
  obtain ⟨W0, hW0⟩ : ∃ W0, w.alloc (.cells (keyC o ht id seed nx).toArray 39) = W0 := ⟨_, rfl⟩
  have hK0 := hid (show Holds W0 w.heap.size 39 (keyC o ht id seed nx) from by rw [← hW0]; exact Holds.new _ _ _)
  have hB0 := hid (show Below w.heap.size w W0 from by rw [← hW0]; exact (Below.refl _ _).alloc (Nat.le_refl _) _)
  have hW0' := hid hW0
  have hc0 := hid (hK0.out.c 0 _ rfl)
  clear hW0
  go_enter Tryz.func29, Tryz.ntmps29
  go_wp2_with (first
    | ((with_reducible refine at_slot (some 1) ?_); refine wpList_run rfl (.pointer (some ⟨w.heap.size, 0, none⟩)) (w.alloc (.cells (keyC o ht id seed nx).toArray 39)) (by kernel_rfl) ?_; rw [hW0'.out])
    | ((with_reducible refine at_slot (some 7) ?_); refine wpList_run rfl (.int .i64 o) W0 (by have c0 := hc0.out; go_simp) ?_)
    | fail)
  refine (OtsOf_any o _).mono ?_
  rintro e W2 ⟨rfl, hb2⟩
  rw [hans'.out]
  have hsz := par_size cs hcs
  have hthere := par_there W2 cs hcs
  rename_i hK1
  refine hK1 _ _ ?_
  clear hK1
  have hK2 := hid (hK0.out.below hb2 hK0.out.lt)
  have hB2 := hid (below_up hb2 hB0.out)
  clear hb2 hc0
  go_wp2_with (first
    | ((with_reducible refine at_slot (some 3) ?_); refine wpList_run rfl (.pointer (some ⟨W2.heap.size, 0, none⟩)) (W2.alloc (.cells noC 54)) (by kernel_rfl) ?_)
    | ((with_reducible refine at_slot none ?_); refine wpList_store_mid rfl 54 (.tmp 3) (.tmp 9) rfl W2.heap.size 0 cs rfl rfl (by exact hthere) (by exact hsz) (by exact h1c) ?_; generalize hW7 : World.setCells _ _ _ _ = W7
       have hP7 := par_new cs hcs hW7
       have hK7 := hid (hK2.out.below hP7.2 hK2.out.lt)
       have hB7 := hid (below_up hP7.2 hB2.out)
       clear hP7 hW7)
    | fail)
  have hb : Below W7.heap.size W7 W7.drew := (Below.refl _ _).drew
  have hK8 := zon hb hK7
  have hB8 := zup hb hB7
  clear hb hthere hK2 hB2 hK7 hB7
  refine wp_region_held_drew (S := fun W => Holds W w.heap.size 39 (keyC o ht id seed nx)) (by kernel_rfl) (by exact hK8.out) (fun zH => ?_)
  generalize W7.drew = W8 at *
  cases ok with
  | false =>
    refine tkx 0 (.bool false) zH ?_; simp only [lp]
    refine tkx 1 (.bool false) zH ?_; simp only [lp]
    refine tkx 2 undef zH ?_
    refine tkx 3 undef zH ?_
    refine tkx 4 undef zH ?_; simp only [lp]
    refine tkx 5 (.bool false) zH ?_; simp only [lp]
    refine tkx 6 (.bool false) zH ?_; simp only [lp]
    refine tkx 7 undef zH ?_
    refine tkx 8 undef zH ?_
    refine tkx 9 undef zH ?_
    refine tkx 10 undef zH ?_; simp only [lp]
    refine tkx 11 (.bool false) zH ?_; simp only [lp]
    refine tkx 12 (.bool false) zH ?_; simp only [lp]
    refine tkx 13 undef zH ?_
    refine tkx 14 undef zH ?_
    refine tkx 15 undef zH ?_
    refine tkx 16 undef zH ?_; simp only [lp]
    refine tkx 17 (.bool false) zH ?_; simp only [lp]
    refine tkx 18 (.bool false) zH ?_; simp only [lp]
    refine tkx 19 undef zH ?_
    refine tkx 20 undef zH ?_
    refine tkx 21 undef zH ?_; simp only [lp]
    refine tkx 22 (.bool false) zH ?_; simp only [lp]
    refine tkx 23 (.bool false) zH ?_; simp only [lp]
    refine tkx 24 undef zH ?_
    refine tkx 25 undef zH ?_
    refine tkx 26 undef zH ?_
    refine tkx 27 undef zH ?_
    refine tkx 28 undef zH ?_
    refine tkx 29 undef zH ?_; simp only [lp]
    refine tkx 30 (.bool false) zH ?_; simp only [lp]
    refine tkx 31 (.bool false) zH ?_; simp only [lp]
    refine wpAnyH_done (by kernel_rfl) ?_ _
    go_wp2_with fail
    go_ret
    exact ⟨by rw [← hR'.out]; rfl, hB8.out⟩
  | true =>
    refine tkx 0 (.bool true) zH ?_; simp only [lp]
    refine tkx 1 (.bool true) zH ?_; simp only [lp]
    refine tkx 2 (.pointer (some ⟨w.heap.size, 1, none⟩)) zH ?_; simp only [lp]
    refine tkx 3 (.int .i64 ht) zH ?_ (hy := .inl ⟨by kernel_rfl, fun W hS => by have c1 := hS.c 1 _ rfl; go_simp⟩); simp only [lp]
    refine wpAnyH_ready (rs := [4]) (by kernel_rfl) (by simp) (AllReadyH.cons rfl (fun K hK => ?_) AllReadyH.nil)
    have hK' := hid hK
    clear hK
    rw [if_pos (by kernel_rfl)]
    simp only [ly1, ly2, ly3]
    go_simp
    by_cases hp1 : 1 ≤ ht ∧ ht ≤ 5
    · have hq1 := decide_eq_true hp1
      have hHM1 := hid (fun W => by have h := HeightMay_any ht W; rw [decide_eq_true hp1] at h; exact h)
      refine (hHM1.out _).mono ?_
      rintro e w' ⟨rfl, rfl⟩
      refine hK'.out _ _ (by exact hK8.out) (fun zH => ?_)
      clear hK' K
      refine tkx 5 (.bool true) zH ?_; simp only [lp]
      refine tkx 6 (.bool true) zH ?_; simp only [lp]
      refine tkx 7 (.pointer (some ⟨w.heap.size, 2, none⟩)) zH ?_; simp only [lp]
      refine tkx 8 (.string id) zH ?_ (hy := .inl ⟨by kernel_rfl, fun W hS => by have c2 := hS.c 2 _ rfl; go_simp⟩); simp only [lp]
      refine tkx 9 (.int .i64 (id.size : Int)) zH ?_; simp only [lp]
      by_cases hp2 : id.size = 16
      · have hq2 := decide_eq_true hp2
        have hf2 : ((id.size : Int) == 16) = true := by simp; omega
        refine tkx 10 (.bool true) zH ?_; simp only [lp]
        refine tkx 11 (.bool true) zH ?_; simp only [lp]
        refine tkx 12 (.bool true) zH ?_; simp only [lp]
        refine tkx 13 (.pointer (some ⟨w.heap.size, 3, none⟩)) zH ?_; simp only [lp]
        refine tkx 14 (.string seed) zH ?_ (hy := .inl ⟨by kernel_rfl, fun W hS => by have c3 := hS.c 3 _ rfl; go_simp⟩); simp only [lp]
        refine tkx 15 (.int .i64 (seed.size : Int)) zH ?_; simp only [lp]
        by_cases hp3 : seed.size = 32
        · have hq3 := decide_eq_true hp3
          have hf3 : ((seed.size : Int) == 32) = true := by simp; omega
          refine tkx 16 (.bool true) zH ?_; simp only [lp]
          refine tkx 17 (.bool true) zH ?_; simp only [lp]
          refine tkx 18 (.bool true) zH ?_; simp only [lp]
          refine tkx 19 (.pointer (some ⟨w.heap.size, 4, none⟩)) zH ?_; simp only [lp]
          refine tkx 20 (.int .i64 nx) zH ?_ (hy := .inl ⟨by kernel_rfl, fun W hS => by have c4 := hS.c 4 _ rfl; go_simp⟩); simp only [lp]
          by_cases hp4 : 0 ≤ nx
          · have hq4 := decide_eq_true hp4
            obtain ⟨Z, hZ⟩ : ∃ Z : Int, ((2 ^ ht.toNat : Nat) : Int) = Z := ⟨_, rfl⟩
            have hZw : IntKind.i64.wrap (2 ^ ht.toNat) = Z := (shl_wrap ht.toNat (by omega)).trans hZ
            refine tkx 21 (.bool true) zH ?_; simp only [lp]
            refine tkx 22 (.bool true) zH ?_; simp only [lp]
            refine tkx 23 (.bool true) zH ?_; simp only [lp]
            refine tkx 24 (.pointer (some ⟨w.heap.size, 4, none⟩)) zH ?_; simp only [lp]
            refine tkx 25 (.int .i64 nx) zH ?_ (hy := .inl ⟨by kernel_rfl, fun W hS => by have c4 := hS.c 4 _ rfl; go_simp⟩); simp only [lp]
            refine tkx 26 (.pointer (some ⟨w.heap.size, 1, none⟩)) zH ?_; simp only [lp]
            refine tkx 27 (.int .i64 ht) zH ?_ (hy := .inl ⟨by kernel_rfl, fun W hS => by have c1 := hS.c 1 _ rfl; go_simp⟩); simp only [lp]
            refine tkx 28 (.int .i64 Z) zH ?_; simp only [lp]
            by_cases hp5 : nx ≤ ((2 ^ ht.toNat : Nat) : Int)
            · have hq5 := decide_eq_true hp5
              have hf5 : decide (nx ≤ Z) = true := decide_eq_true (by rw [← hZ]; exact hp5)
              refine tkx 29 (.bool true) zH ?_; simp only [lp]
              refine tkx 30 (.bool true) zH ?_; simp only [lp]
              refine tkx 31 (.bool true) zH ?_; simp only [lp]
              refine wpAnyH_done (by kernel_rfl) ?_ _
              go_wp2_with fail
              go_ret
              exact ⟨by rw [← hR'.out]; rw [hq1, hq2, hq3, hq4, hq5]; rfl, hB8.out⟩
            · have hq5 := decide_eq_false hp5
              have hf5 : decide (nx ≤ Z) = false := decide_eq_false (by rw [← hZ]; exact hp5)
              refine tkx 29 (.bool false) zH ?_; simp only [lp]
              refine tkx 30 (.bool false) zH ?_; simp only [lp]
              refine tkx 31 (.bool false) zH ?_; simp only [lp]
              refine wpAnyH_done (by kernel_rfl) ?_ _
              go_wp2_with fail
              go_ret
              exact ⟨by rw [← hR'.out]; rw [hq1, hq2, hq3, hq4, hq5]; rfl, hB8.out⟩
          · have hq4 := decide_eq_false hp4
            have hf4 : decide (0 ≤ nx) = false := decide_eq_false hp4
            refine tkx 21 (.bool false) zH ?_; simp only [lp]
            refine tkx 22 (.bool false) zH ?_; simp only [lp]
            refine tkx 23 (.bool false) zH ?_; simp only [lp]
            refine tkx 24 undef zH ?_
            refine tkx 25 undef zH ?_
            refine tkx 26 undef zH ?_
            refine tkx 27 undef zH ?_
            refine tkx 28 undef zH ?_
            refine tkx 29 undef zH ?_; simp only [lp]
            refine tkx 30 (.bool false) zH ?_; simp only [lp]
            refine tkx 31 (.bool false) zH ?_; simp only [lp]
            refine wpAnyH_done (by kernel_rfl) ?_ _
            go_wp2_with fail
            go_ret
            exact ⟨by rw [← hR'.out]; rw [hq1, hq2, hq3, hq4]; rfl, hB8.out⟩
        · have hq3 := decide_eq_false hp3
          have hf3 : ((seed.size : Int) == 32) = false := by simp; omega
          refine tkx 16 (.bool false) zH ?_; simp only [lp]
          refine tkx 17 (.bool false) zH ?_; simp only [lp]
          refine tkx 18 (.bool false) zH ?_; simp only [lp]
          refine tkx 19 undef zH ?_
          refine tkx 20 undef zH ?_
          refine tkx 21 undef zH ?_; simp only [lp]
          refine tkx 22 (.bool false) zH ?_; simp only [lp]
          refine tkx 23 (.bool false) zH ?_; simp only [lp]
          refine tkx 24 undef zH ?_
          refine tkx 25 undef zH ?_
          refine tkx 26 undef zH ?_
          refine tkx 27 undef zH ?_
          refine tkx 28 undef zH ?_
          refine tkx 29 undef zH ?_; simp only [lp]
          refine tkx 30 (.bool false) zH ?_; simp only [lp]
          refine tkx 31 (.bool false) zH ?_; simp only [lp]
          refine wpAnyH_done (by kernel_rfl) ?_ _
          go_wp2_with fail
          go_ret
          exact ⟨by rw [← hR'.out]; rw [hq1, hq2, hq3]; rfl, hB8.out⟩
      · have hq2 := decide_eq_false hp2
        have hf2 : ((id.size : Int) == 16) = false := by simp; omega
        refine tkx 10 (.bool false) zH ?_; simp only [lp]
        refine tkx 11 (.bool false) zH ?_; simp only [lp]
        refine tkx 12 (.bool false) zH ?_; simp only [lp]
        refine tkx 13 undef zH ?_
        refine tkx 14 undef zH ?_
        refine tkx 15 undef zH ?_
        refine tkx 16 undef zH ?_; simp only [lp]
        refine tkx 17 (.bool false) zH ?_; simp only [lp]
        refine tkx 18 (.bool false) zH ?_; simp only [lp]
        refine tkx 19 undef zH ?_
        refine tkx 20 undef zH ?_
        refine tkx 21 undef zH ?_; simp only [lp]
        refine tkx 22 (.bool false) zH ?_; simp only [lp]
        refine tkx 23 (.bool false) zH ?_; simp only [lp]
        refine tkx 24 undef zH ?_
        refine tkx 25 undef zH ?_
        refine tkx 26 undef zH ?_
        refine tkx 27 undef zH ?_
        refine tkx 28 undef zH ?_
        refine tkx 29 undef zH ?_; simp only [lp]
        refine tkx 30 (.bool false) zH ?_; simp only [lp]
        refine tkx 31 (.bool false) zH ?_; simp only [lp]
        refine wpAnyH_done (by kernel_rfl) ?_ _
        go_wp2_with fail
        go_ret
        exact ⟨by rw [← hR'.out]; rw [hq1, hq2]; rfl, hB8.out⟩
    · have hq1 := decide_eq_false hp1
      have hHM0 := hid (fun W => by have h := HeightMay_any ht W; rw [decide_eq_false hp1] at h; exact h)
      refine (hHM0.out _).mono ?_
      rintro e w' ⟨rfl, rfl⟩
      refine hK'.out _ _ (by exact hK8.out) (fun zH => ?_)
      clear hK' K
      refine tkx 5 (.bool false) zH ?_; simp only [lp]
      refine tkx 6 (.bool false) zH ?_; simp only [lp]
      refine tkx 7 undef zH ?_
      refine tkx 8 undef zH ?_
      refine tkx 9 undef zH ?_
      refine tkx 10 undef zH ?_; simp only [lp]
      refine tkx 11 (.bool false) zH ?_; simp only [lp]
      refine tkx 12 (.bool false) zH ?_; simp only [lp]
      refine tkx 13 undef zH ?_
      refine tkx 14 undef zH ?_
      refine tkx 15 undef zH ?_
      refine tkx 16 undef zH ?_; simp only [lp]
      refine tkx 17 (.bool false) zH ?_; simp only [lp]
      refine tkx 18 (.bool false) zH ?_; simp only [lp]
      refine tkx 19 undef zH ?_
      refine tkx 20 undef zH ?_
      refine tkx 21 undef zH ?_; simp only [lp]
      refine tkx 22 (.bool false) zH ?_; simp only [lp]
      refine tkx 23 (.bool false) zH ?_; simp only [lp]
      refine tkx 24 undef zH ?_
      refine tkx 25 undef zH ?_
      refine tkx 26 undef zH ?_
      refine tkx 27 undef zH ?_
      refine tkx 28 undef zH ?_
      refine tkx 29 undef zH ?_; simp only [lp]
      refine tkx 30 (.bool false) zH ?_; simp only [lp]
      refine tkx 31 (.bool false) zH ?_; simp only [lp]
      refine wpAnyH_done (by kernel_rfl) ?_ _
      go_wp2_with fail
      go_ret
      exact ⟨by rw [← hR'.out]; rw [hq1]; rfl, hB8.out⟩

end Go.Proofs.YtmfajekfipfjpaaGreat
