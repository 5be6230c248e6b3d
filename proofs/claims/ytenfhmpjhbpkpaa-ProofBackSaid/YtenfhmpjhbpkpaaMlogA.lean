/- Layer 9: leaves, joins, the greatest power of two; of the program and of the reference.
   Layer 9, the program's side: trees: New, Size, Append.
   Layer 9, the program's side: Append.
   Layer 9, the program's side: Append, the walk. -/
import Derived.Test.YtenfhmpjhbpkpaaMl
import Derived.Test.YtenfhmpjhbpkpaaRefSha2
import Derived.Deep.RegionHeld3
import Derived.Deep.Quiet
import Derived.Deep.AppendLies
import Derived.Test.YtenfhmpjhbpkpaaTools
namespace Go.Proofs.Ytenfhmpjhbpkpaa
open Go.RowKit
open Go.Lib (strCells strCells_length strCells_oneCell)
attribute [local irreducible] Sha.compress Sha.blocks Sha.sha Sha.pad

theorem HashCells.there' {cs ds : List Value} (hc : HashCells cs) {W : World} {g : Nat} (h : Holds W g 28 ds) (hd : ds.length = 32) : W.there g 0 cs.toArray.size :=
  h.there 0 _ (by rw [List.size_toArray, hc.len, hd]; decide)

theorem HashCells.set {cs ds : List Value} (hc : HashCells cs) {w W W3 : World} {g : Nat} (h : Holds W g 28 ds) (hd : ds.length = 32) (e : W.setCells g 0 cs = W3) (hb : Below w.heap.size w W) (hg : w.heap.size ≤ g) : Holds W3 g 28 cs ∧ Below w.heap.size w W3 := by
  subst e
  have h1 := h.put 0 cs (by rw [hc.len, hd]; decide)
  rw [put_all _ _ (by rw [hc.len, hd])] at h1
  exact ⟨h1, below_setCells hb _ _ _ hg⟩

theorem hash_leaf (s : List UInt8) : HashCells (byteCells (leafH s)) := hash_cells _ (leafH_len _)
theorem hash_node (a b : List UInt8) : HashCells (byteCells (nodeH a b)) := hash_cells _ (nodeH_len _ _)
theorem hash_root (xs : List ByteArray) : HashCells (byteCells (rootH xs)) := hash_cells _ (rootH_len _)

theorem cells_far (w : World) (g o : Nat) (vs : List Value) (k : Nat) (h : k ≠ g) : (w.setCells g o vs).heap[k]? = w.heap[k]? := by
  induction vs generalizing w o with
  | nil => rfl
  | cons v vs ih => exact (ih _ (o + 1)).trans (heap_setCell_other w ⟨g, o, none⟩ k v h)

/-- A leaf's text. -/
def leafT (x : ByteArray) : ByteArray := ⟨#[0]⟩ ++ x
theorem leafT_sha (x : ByteArray) : Sha.sha (leafT x).data.toList = leafH x.data.toList := by unfold leafT leafH; rw [data_append]
theorem leafT_size (x : ByteArray) : (leafT x).size = 1 + x.size := by unfold leafT; rw [ByteArray.size_append]; rfl

/-- A node's text. -/
def nodeT (a b : List UInt8) : ByteArray := ⟨#[1]⟩ ++ txt a ++ txt b
theorem nodeT_sha (a b : List UInt8) : Sha.sha (nodeT a b).data.toList = nodeH a b := by unfold nodeT nodeH; rw [data_append, data_append, txt_list, txt_list]
theorem nodeT_size (a b : List UInt8) (ha : a.length = 32) (hb : b.length = 32) : (nodeT a b).size = 65 := by unfold nodeT; rw [ByteArray.size_append, ByteArray.size_append, txt_size, txt_size, ha, hb]; rfl

set_option maxRecDepth 100000 in
theorem mLeaf_any (x : ByteArray) (w : World) (hx : x.size ≤ 140737488351232) : Calls Try.prog 19 #[.string x] w fun e w' => e = .returned (hv (leafH x.data.toList)) ∧ Below w.heap.size w w' := by
  have hs := hid (fun W => sum_any (leafT x) W (by rw [leafT_size]; omega))
  have hC := hid (hash_leaf x.data.toList)
  unfold hashV at hs
  rw [leafT_sha] at hs
  unfold hv
  have hcat : (⟨#[0]⟩ : ByteArray).size + x.size ≤ 9223372036854775807 := by show 1 + x.size ≤ _; omega
  obtain ⟨X, hX⟩ : ∃ X : ByteArray, ⟨#[0]⟩ ++ x = X := ⟨_, rfl⟩
  have hXl : leafT x = X := hX
  rw [hXl] at hs
  generalize byteCells (leafH x.data.toList) = cs at *
  have hX' := hid hX
  clear hX hXl
  go_enter Try.func19, Try.ntmps19
  go_wp2_with ((with_reducible refine at_slot (some 2) ?_); refine wpList_run rfl (.pointer (some ⟨w.heap.size, 0, none⟩)) (w.alloc (.cells z32 28)) (by kernel_rfl) ?_)
  rw [hX'.out]
  refine (hs.out _).mono ?_
  rintro e W2 ⟨rfl, hb2⟩
  have hH2 := hid ((Holds.new w 28 z32).below hb2 (by simp))
  have hB2 := hid (below_up hb2 ((Below.refl w.heap.size w).alloc (Nat.le_refl _) _))
  clear hb2
  rename_i hK1
  refine hK1 _ _ ?_
  clear hK1
  refine wpList_store_mid rfl 28 (.tmp 2) (.tmp 5) rfl w.heap.size 0 cs.toArray rfl rfl (by exact hC.out.there' hH2.out rfl) (by exact hC.out.size) (by exact hC.out.one) ?_
  generalize hW3 : World.setCells _ _ _ _ = W3
  obtain ⟨hH3, hB3⟩ := hC.out.set hH2.out rfl hW3 hB2.out (Nat.le_refl _)
  have hH3' := hid hH3
  have hB3' := hid hB3
  clear hW3 hH3 hB3
  go_wp2_with fail
  exact bodyPost_ret (results_cell_row rfl _ _ w.heap.size 28 _ (0, 0) _ rfl hH3'.out Try.underlying28 rfl (by exact hC.out.size)) rfl ⟨rfl, hB3'.out⟩
set_option maxRecDepth 100000 in
theorem rLeaf_any (x : ByteArray) (w : World) (hx : x.size ≤ 140737488351232) : Calls Try.prog 20 #[.string x] w fun e w' => e = .returned (hv (leafH x.data.toList)) ∧ Below w.heap.size w w' := by
  have hs := hid (fun W => rsha_any (leafT x) W (by rw [leafT_size]; omega))
  have hC := hid (hash_leaf x.data.toList)
  unfold hashV at hs
  rw [leafT_sha] at hs
  unfold hv
  have hcat : (⟨#[0]⟩ : ByteArray).size + x.size ≤ 9223372036854775807 := by show 1 + x.size ≤ _; omega
  obtain ⟨X, hX⟩ : ∃ X : ByteArray, ⟨#[0]⟩ ++ x = X := ⟨_, rfl⟩
  have hXl : leafT x = X := hX
  rw [hXl] at hs
  generalize byteCells (leafH x.data.toList) = cs at *
  have hX' := hid hX
  clear hX hXl
  go_enter Try.func20, Try.ntmps20
  go_wp2_with ((with_reducible refine at_slot (some 2) ?_); refine wpList_run rfl (.pointer (some ⟨w.heap.size, 0, none⟩)) (w.alloc (.cells z32 28)) (by kernel_rfl) ?_)
  rw [hX'.out]
  refine (hs.out _).mono ?_
  rintro e W2 ⟨rfl, hb2⟩
  have hH2 := hid ((Holds.new w 28 z32).below hb2 (by simp))
  have hB2 := hid (below_up hb2 ((Below.refl w.heap.size w).alloc (Nat.le_refl _) _))
  clear hb2
  rename_i hK1
  refine hK1 _ _ ?_
  clear hK1
  refine wpList_store_mid rfl 28 (.tmp 2) (.tmp 5) rfl w.heap.size 0 cs.toArray rfl rfl (by exact hC.out.there' hH2.out rfl) (by exact hC.out.size) (by exact hC.out.one) ?_
  generalize hW3 : World.setCells _ _ _ _ = W3
  obtain ⟨hH3, hB3⟩ := hC.out.set hH2.out rfl hW3 hB2.out (Nat.le_refl _)
  have hH3' := hid hH3
  have hB3' := hid hB3
  clear hW3 hH3 hB3
  go_wp2_with fail
  exact bodyPost_ret (results_cell_row rfl _ _ w.heap.size 28 _ (0, 0) _ rfl hH3'.out Try.underlying28 rfl (by exact hC.out.size)) rfl ⟨rfl, hB3'.out⟩

set_option maxRecDepth 100000 in
set_option maxHeartbeats 1000000 in
theorem mJoin_any (a b : List UInt8) (ha : a.length = 32) (hb : b.length = 32) (w : World) : Calls Try.prog 41 #[hv a, hv b] w fun e w' => e = .returned (hv (nodeH a b)) ∧ Below w.heap.size w w' := by
  have hs := hid (fun W => sum_any (nodeT a b) W (by rw [nodeT_size a b ha hb]; omega))
  have hC := hid (hash_node a b)
  unfold hashV at hs
  rw [nodeT_sha] at hs
  have hva := hid (fun W g h => hv_text a ha W g h)
  have hvb := hid (fun W g h => hv_text b hb W g h)
  have hla : (byteCells a).length = 32 := by rw [byteCells, List.length_map, ha]
  have hlb : (byteCells b).length = 32 := by rw [byteCells, List.length_map, hb]
  have hcat1 : 1 + (txt a).size ≤ 9223372036854775807 := by rw [txt_size, ha]; decide
  have hcat2 : 1 + (txt a).size + (txt b).size ≤ 9223372036854775807 := by rw [txt_size, txt_size, ha, hb]; decide
  unfold hv
  generalize byteCells (nodeH a b) = cs at *
  generalize byteCells a = ca at *
  generalize byteCells b = cb at *
  have hnt : ⟨#[1]⟩ ++ txt a ++ txt b = nodeT a b := rfl
  have hnt' := hid hnt
  generalize nodeT a b = X at *
  generalize txt a = ta at *
  generalize txt b = tb at *
  obtain ⟨W0, hW0⟩ : ∃ W0, ((w.alloc (.cells ca.toArray 28)).alloc (.cells cb.toArray 28)).alloc (.cells z32 28) = W0 := ⟨_, rfl⟩
  have hA : Holds W0 w.heap.size 28 ca := by rw [← hW0]; exact ((Holds.new w 28 ca.toArray).alloc _).alloc _
  have hB : Holds W0 (w.heap.size + 1) 28 cb := by rw [← hW0]; have h := (Holds.new (w.alloc (.cells ca.toArray 28)) 28 cb.toArray).alloc (.cells z32 28); simpa using h
  have hR : Holds W0 (w.heap.size + 1 + 1) 28 z32.toList := by rw [← hW0]; have h := Holds.new ((w.alloc (.cells ca.toArray 28)).alloc (.cells cb.toArray 28)) 28 z32; simpa using h
  have hbl : Below w.heap.size w W0 := by rw [← hW0]; exact (((Below.refl _ _).alloc (Nat.le_refl _) _).alloc (by simp) _).alloc (by simp; omega) _
  have hdr : Below W0.heap.size W0 W0.drew := (Below.refl _ _).drew
  have hAd := hid (hA.below hdr hA.lt)
  have hBd := hid (hB.below hdr hB.lt)
  have hRd := hid (hR.below hdr hR.lt)
  have hbd := hid (below_up hdr hbl)
  have hW0' := hid hW0
  have hla' := hid hla
  have hlb' := hid hlb
  clear hA hB hR hbl hdr hW0 hla hlb hnt
  go_enter Try.func41, Try.ntmps41
  have e2 : ((w.alloc (.cells ca.toArray 28)).alloc (.cells cb.toArray 28)).heap.size = w.heap.size + 1 + 1 := by simp
  go_wp2_with ((with_reducible refine at_slot (some 4) ?_); refine wpList_run rfl (.pointer (some ⟨((w.alloc (.cells ca.toArray 28)).alloc (.cells cb.toArray 28)).heap.size, 0, none⟩)) (((w.alloc (.cells ca.toArray 28)).alloc (.cells cb.toArray 28)).alloc (.cells z32 28)) (by kernel_rfl) ?_; rw [hW0'.out, e2])
  clear e2
  refine wp_region_held_drew (S := fun W => Holds W w.heap.size 28 ca ∧ Holds W (w.heap.size + 1) 28 cb) (by kernel_rfl) (by exact ⟨hAd.out, hBd.out⟩) (fun hHeld => ?_)
  refine wpAnyH_take (i := 0) (v := .slice (some ⟨w.heap.size, 0, none⟩) 32 32) rfl (by kernel_rfl) (by kernel_rfl) (by kernel_rfl) (fun _ _ _ h => h) (.inl ⟨by kernel_rfl, fun w _ => by go_simp⟩) hHeld ?_
  simp only [ly1, ly2, ly3, Act.put, ly5, ly6, ly7]
  refine wpAnyH_take (i := 1) (v := .string ta) rfl (by kernel_rfl) (by kernel_rfl) (by kernel_rfl) (fun _ _ _ h => h) (.inl ⟨by kernel_rfl, fun W hS => by have hc := hva.out W _ hS.1; go_simp⟩) hHeld ?_
  simp only [ly1, ly2, ly3, Act.put, ly5, ly6, ly7]
  refine wpAnyH_take (i := 2) (v := .string (⟨#[1]⟩ ++ ta)) rfl (by kernel_rfl) (by kernel_rfl) (by kernel_rfl) (fun _ _ _ h => h) (.inl ⟨by kernel_rfl, fun w _ => by go_simp⟩) hHeld ?_
  simp only [ly1, ly2, ly3, Act.put, ly5, ly6, ly7]
  refine wpAnyH_take (i := 3) (v := .slice (some ⟨w.heap.size + 1, 0, none⟩) 32 32) rfl (by kernel_rfl) (by kernel_rfl) (by kernel_rfl) (fun _ _ _ h => h) (.inl ⟨by kernel_rfl, fun w _ => by go_simp⟩) hHeld ?_
  simp only [ly1, ly2, ly3, Act.put, ly5, ly6, ly7]
  refine wpAnyH_take (i := 4) (v := .string tb) rfl (by kernel_rfl) (by kernel_rfl) (by kernel_rfl) (fun _ _ _ h => h) (.inl ⟨by kernel_rfl, fun W hS => by have hc := hvb.out W _ hS.2; go_simp⟩) hHeld ?_
  simp only [ly1, ly2, ly3, Act.put, ly5, ly6, ly7]
  refine wpAnyH_take (i := 5) (v := .string (⟨#[1]⟩ ++ ta ++ tb)) rfl (by kernel_rfl) (by kernel_rfl) (by kernel_rfl) (fun _ _ _ h => h) (.inl ⟨by kernel_rfl, fun w _ => by go_simp⟩) hHeld ?_
  simp only [ly1, ly2, ly3, Act.put, ly5, ly6, ly7]
  refine wpAnyH_ready (rs := [6]) (by kernel_rfl) (by simp) (AllReadyH.cons rfl (fun K hK => ?_) AllReadyH.nil)
  have hK' := hid hK
  clear hK
  rw [if_pos (by kernel_rfl)]
  simp only [ly1, ly2, ly3]
  go_simp
  rw [hnt'.out]
  refine (hs.out _).mono ?_
  rintro e W2 ⟨rfl, hb2⟩
  have hA2 := hid (hAd.out.below hb2 hAd.out.lt)
  have hB2 := hid (hBd.out.below hb2 hBd.out.lt)
  have hR2 := hid (hRd.out.below hb2 hRd.out.lt)
  have hb2' := hid (below_up hb2 hbd.out)
  clear hb2
  refine hK'.out _ _ (by exact ⟨hA2.out, hB2.out⟩) (fun hHeld => ?_)
  clear hK' K
  refine wpAnyH_ready (rs := [7]) (by kernel_rfl) (by simp) (AllReadyH.cons rfl (fun K hK => ?_) AllReadyH.nil)
  have hK' := hid hK
  clear hK
  rw [if_pos (by kernel_rfl)]
  simp only [ly1, ly2, ly3]
  refine wp_store_mid _ _ _ rfl (w.heap.size + 1 + 1) 0 cs.toArray rfl rfl (by exact hC.out.there' hR2.out rfl) (by exact hC.out.size) (by exact hC.out.one) ?_
  generalize hW3 : World.setCells _ _ _ _ = W3
  obtain ⟨hH3, hB3⟩ := hC.out.set hR2.out rfl hW3 hb2'.out (by omega)
  have hA3 := hid (show Holds W3 w.heap.size 28 ca from by rw [← hW3]; exact (cells_far _ _ _ _ _ (by omega)).trans hA2.out)
  have hB3' := hid (show Holds W3 (w.heap.size + 1) 28 cb from by rw [← hW3]; exact (cells_far _ _ _ _ _ (by omega)).trans hB2.out)
  have hH3' := hid hH3
  have hb3' := hid hB3
  clear hW3 hH3 hB3
  refine hK'.out _ _ (by exact ⟨hA3.out, hB3'.out⟩) (fun hHeld => ?_)
  clear hK' K
  refine wpAnyH_done (by kernel_rfl) ?_ _
  go_wp2_with fail
  exact bodyPost_ret (results_cell_row rfl _ _ (w.heap.size + 1 + 1) 28 _ (0, 0) _ rfl hH3'.out Try.underlying28 rfl (by exact hC.out.size)) rfl ⟨rfl, hb3'.out⟩

set_option maxRecDepth 100000 in
set_option maxHeartbeats 1000000 in
theorem rOver_any (a b : List UInt8) (ha : a.length = 32) (hb : b.length = 32) (w : World) : Calls Try.prog 43 #[hv a, hv b] w fun e w' => e = .returned (hv (nodeH a b)) ∧ Below w.heap.size w w' := by
  have hs := hid (fun W => rsha_any (nodeT a b) W (by rw [nodeT_size a b ha hb]; omega))
  have hC := hid (hash_node a b)
  unfold hashV at hs
  rw [nodeT_sha] at hs
  have hva := hid (fun W => tT_any a ha W)
  have hvb := hid (fun W => tT_any b hb W)
  have hla : (byteCells a).length = 32 := by rw [byteCells, List.length_map, ha]
  have hlb : (byteCells b).length = 32 := by rw [byteCells, List.length_map, hb]
  have hcat1 : 1 + (txt a).size ≤ 9223372036854775807 := by rw [txt_size, ha]; decide
  have hcat2 : 1 + (txt a).size + (txt b).size ≤ 9223372036854775807 := by rw [txt_size, txt_size, ha, hb]; decide
  unfold hv at *
  generalize byteCells (nodeH a b) = cs at *
  generalize byteCells a = ca at *
  generalize byteCells b = cb at *
  have hnt : ⟨#[1]⟩ ++ txt a ++ txt b = nodeT a b := rfl
  have hnt' := hid hnt
  generalize nodeT a b = X at *
  generalize txt a = ta at *
  generalize txt b = tb at *
  obtain ⟨W0, hW0⟩ : ∃ W0, ((w.alloc (.cells ca.toArray 28)).alloc (.cells cb.toArray 28)).alloc (.cells z32 28) = W0 := ⟨_, rfl⟩
  have hA : Holds W0 w.heap.size 28 ca := by rw [← hW0]; exact ((Holds.new w 28 ca.toArray).alloc _).alloc _
  have hB : Holds W0 (w.heap.size + 1) 28 cb := by rw [← hW0]; have h := (Holds.new (w.alloc (.cells ca.toArray 28)) 28 cb.toArray).alloc (.cells z32 28); simpa using h
  have hR : Holds W0 (w.heap.size + 1 + 1) 28 z32.toList := by rw [← hW0]; have h := Holds.new ((w.alloc (.cells ca.toArray 28)).alloc (.cells cb.toArray 28)) 28 z32; simpa using h
  have hbl : Below w.heap.size w W0 := by rw [← hW0]; exact (((Below.refl _ _).alloc (Nat.le_refl _) _).alloc (by simp) _).alloc (by simp; omega) _
  have hdr : Below W0.heap.size W0 W0.drew := (Below.refl _ _).drew
  have hAd := hid (hA.below hdr hA.lt)
  have hBd := hid (hB.below hdr hB.lt)
  have hRd := hid (hR.below hdr hR.lt)
  have hbd := hid (below_up hdr hbl)
  have hW0' := hid hW0
  have hla' := hid hla
  have hsa := hid (show (Try.prog.info? 28).map (·.size) = some ca.length from by rw [Try.infoHash, hla])
  have hsb := hid (show (Try.prog.info? 28).map (·.size) = some cb.length from by rw [Try.infoHash, hlb])
  have hlb' := hid hlb
  clear hA hB hR hbl hdr hW0 hla hlb hnt
  go_enter Try.func43, Try.ntmps43
  have e2 : ((w.alloc (.cells ca.toArray 28)).alloc (.cells cb.toArray 28)).heap.size = w.heap.size + 1 + 1 := by simp
  go_wp2_with ((with_reducible refine at_slot (some 4) ?_); refine wpList_run rfl (.pointer (some ⟨((w.alloc (.cells ca.toArray 28)).alloc (.cells cb.toArray 28)).heap.size, 0, none⟩)) (((w.alloc (.cells ca.toArray 28)).alloc (.cells cb.toArray 28)).alloc (.cells z32 28)) (by kernel_rfl) ?_; rw [hW0'.out, e2])
  clear e2
  refine wp_region_held_drew (S := fun W => Holds W w.heap.size 28 ca ∧ Holds W (w.heap.size + 1) 28 cb) (by kernel_rfl) (by exact ⟨hAd.out, hBd.out⟩) (fun hHeld => ?_)
  refine wpAnyH_take (i := 0) (v := .agg ca.toArray) rfl (by kernel_rfl) (by kernel_rfl) (by kernel_rfl) (fun _ _ _ h => h) (yieldsIf_load_mid (by kernel_rfl) _ _ rfl _ _ rfl _ _ (fun W h => h_all h.1) Try.underlying28 rfl hsa.out) hHeld ?_
  simp only [ly1, ly2, ly3, Act.put, ly5, ly6, ly7]
  refine wpAnyH_take (i := 3) (v := .agg cb.toArray) rfl (by kernel_rfl) (by kernel_rfl) (by kernel_rfl) (fun _ _ _ h => h) (yieldsIf_load_mid (by kernel_rfl) _ _ rfl _ _ rfl _ _ (fun W h => h_all h.2) Try.underlying28 rfl hsb.out) hHeld ?_
  simp only [ly1, ly2, ly3, Act.put, ly5, ly6, ly7]
  refine wpAnyH_ready (rs := [1]) (by kernel_rfl) (by simp) (AllReadyH.cons rfl (fun K hK => ?_) AllReadyH.nil)
  have hK' := hid hK
  clear hK
  rw [if_pos (by kernel_rfl)]
  simp only [ly1, ly2, ly3]
  go_simp
  refine (hva.out _).mono ?_
  rintro e W4 ⟨rfl, hb4⟩
  have hA4 := hid (hAd.out.below hb4 hAd.out.lt)
  have hB4 := hid (hBd.out.below hb4 hBd.out.lt)
  have hR4 := hid (hRd.out.below hb4 hRd.out.lt)
  have hbd4 := hid (below_up hb4 hbd.out)
  clear hb4
  refine hK'.out _ _ (by exact ⟨hA4.out, hB4.out⟩) (fun hHeld => ?_)
  clear hK' K
  refine wpAnyH_take (i := 2) (v := .string (⟨#[1]⟩ ++ ta)) rfl (by kernel_rfl) (by kernel_rfl) (by kernel_rfl) (fun _ _ _ h => h) (.inl ⟨by kernel_rfl, fun w _ => by go_simp⟩) hHeld ?_
  simp only [ly1, ly2, ly3, Act.put, ly5, ly6, ly7]
  refine wpAnyH_ready (rs := [4]) (by kernel_rfl) (by simp) (AllReadyH.cons rfl (fun K hK => ?_) AllReadyH.nil)
  have hK' := hid hK
  clear hK
  rw [if_pos (by kernel_rfl)]
  simp only [ly1, ly2, ly3]
  go_simp
  refine (hvb.out _).mono ?_
  rintro e W5 ⟨rfl, hb5⟩
  have hA5 := hid (hA4.out.below hb5 hA4.out.lt)
  have hB5 := hid (hB4.out.below hb5 hB4.out.lt)
  have hR5 := hid (hR4.out.below hb5 hR4.out.lt)
  have hbd5 := hid (below_up hb5 hbd4.out)
  clear hb5
  refine hK'.out _ _ (by exact ⟨hA5.out, hB5.out⟩) (fun hHeld => ?_)
  clear hK' K
  refine wpAnyH_take (i := 5) (v := .string (⟨#[1]⟩ ++ ta ++ tb)) rfl (by kernel_rfl) (by kernel_rfl) (by kernel_rfl) (fun _ _ _ h => h) (.inl ⟨by kernel_rfl, fun w _ => by go_simp⟩) hHeld ?_
  simp only [ly1, ly2, ly3, Act.put, ly5, ly6, ly7]
  refine wpAnyH_ready (rs := [6]) (by kernel_rfl) (by simp) (AllReadyH.cons rfl (fun K hK => ?_) AllReadyH.nil)
  have hK' := hid hK
  clear hK
  rw [if_pos (by kernel_rfl)]
  simp only [ly1, ly2, ly3]
  go_simp
  rw [hnt'.out]
  refine (hs.out _).mono ?_
  rintro e W2 ⟨rfl, hb2⟩
  have hA2 := hid (hA5.out.below hb2 hA5.out.lt)
  have hB2 := hid (hB5.out.below hb2 hB5.out.lt)
  have hR2 := hid (hR5.out.below hb2 hR5.out.lt)
  have hb2' := hid (below_up hb2 hbd5.out)
  clear hb2
  refine hK'.out _ _ (by exact ⟨hA2.out, hB2.out⟩) (fun hHeld => ?_)
  clear hK' K
  refine wpAnyH_ready (rs := [7]) (by kernel_rfl) (by simp) (AllReadyH.cons rfl (fun K hK => ?_) AllReadyH.nil)
  have hK' := hid hK
  clear hK
  rw [if_pos (by kernel_rfl)]
  simp only [ly1, ly2, ly3]
  refine wp_store_mid _ _ _ rfl (w.heap.size + 1 + 1) 0 cs.toArray rfl rfl (by exact hC.out.there' hR2.out rfl) (by exact hC.out.size) (by exact hC.out.one) ?_
  generalize hW3 : World.setCells _ _ _ _ = W3
  obtain ⟨hH3, hB3⟩ := hC.out.set hR2.out rfl hW3 hb2'.out (by omega)
  have hA3 := hid (show Holds W3 w.heap.size 28 ca from by rw [← hW3]; exact (cells_far _ _ _ _ _ (by omega)).trans hA2.out)
  have hB3' := hid (show Holds W3 (w.heap.size + 1) 28 cb from by rw [← hW3]; exact (cells_far _ _ _ _ _ (by omega)).trans hB2.out)
  have hH3' := hid hH3
  have hb3' := hid hB3
  clear hW3 hH3 hB3
  refine hK'.out _ _ (by exact ⟨hA3.out, hB3'.out⟩) (fun hHeld => ?_)
  clear hK' K
  refine wpAnyH_done (by kernel_rfl) ?_ _
  go_wp2_with fail
  exact bodyPost_ret (results_cell_row rfl _ _ (w.heap.size + 1 + 1) 28 _ (0, 0) _ rfl hH3'.out Try.underlying28 rfl (by exact hC.out.size)) rfl ⟨rfl, hb3'.out⟩

theorem cut_pow (f k n : Nat) : Mth.cutFrom (f + 1) k n = if 2 * k < n then Mth.cutFrom f (2 * k) n else k := rfl

set_option maxRecDepth 100000 in
theorem rCut_any (n : Nat) (hn : 2 ≤ n) (hn2 : n ≤ 1000000000000000000) (w : World) : Calls Try.prog 42 #[.int .i64 (n : Int)] w fun e w' => e = .returned (.int .i64 (Mth.cut n : Int)) ∧ Below w.heap.size w w' := by
  have hpl : ∀ k : Nat, 1 ≤ k → 1 ≤ 2 * k := fun k h => by omega
  have h0 : n ≤ 1 * 2 ^ n := by rw [Nat.one_mul]; exact Nat.le_of_lt (Mth.lt_pow n)
  have h0' := hid h0
  clear h0
  go_enter Try.func42, Try.ntmps42
  go_wp2_with fail
  go_loopw [3] (fun v wr => ∃ k f : Nat, 1 ≤ k ∧ k < n ∧ n ≤ k * 2 ^ f ∧ v = .int .i64 (k : Int) ∧ Mth.cutFrom f k n = Mth.cut n ∧ Below w.heap.size w wr) (fun v _ => n - (intOf v).toNat)
  case atStart => exact ⟨1, n, Nat.le_refl _, by omega, h0'.out, rfl, rfl, Below.refl _ _⟩
  case round =>
    obtain ⟨k, f, hk, hkn, hf, rfl, hc, hB⟩ := hrel
    have hw := IntWalk.i64_in (2 * (k : Int)) (by omega)
    have hB' := hid hB
    have hc' := hid hc
    have hf' := hid hf
    clear hB hc hf
    by_cases hlt : 2 * k < n
    · have hlt' : 2 * (k : Int) < (n : Int) := by omega
      go_wp2_with fail
      go_roundw
      case rel =>
        obtain ⟨f', rfl⟩ : ∃ f', f = f' + 1 := ⟨f - 1, by have := hf'.out; cases f with | zero => (simp at this; omega) | succ f => rfl⟩
        have hc := hc'.out
        rw [cut_pow, if_pos hlt] at hc
        have hf := hf'.out
        rw [Nat.pow_succ] at hf
        refine ⟨2 * k, f', by omega, hlt, ?_, by go_num, hc, hB'.out⟩
        have e : 2 * k * 2 ^ f' = k * (2 ^ f' * 2) := by rw [Nat.mul_comm 2 k, Nat.mul_assoc, Nat.mul_comm 2]
        rw [e]
        exact hf
      case measure => simp [intOf]; omega
    · have hlt' : ¬ 2 * (k : Int) < (n : Int) := by omega
      go_wp2_with fail
      go_ret
      have hc := hc'.out
      have : Mth.cutFrom f k n = k := by
        cases f with
        | zero => rfl
        | succ f => rw [cut_pow, if_neg hlt]
      rw [this] at hc
      exact ⟨by rw [← hc]; rfl, hB'.out⟩

end Go.Proofs.Ytenfhmpjhbpkpaa
namespace Go.Proofs.Ytenfhmpjhbpkpaa
open Go.RowKit
open Go.Lib (strCells strCells_length strCells_oneCell)
attribute [local irreducible] Sha.compress Sha.blocks Sha.sha Sha.pad

/-- A tree that holds these leaves. -/
def TreeAt (w : World) (g : Nat) (xs : List ByteArray) (r : Option Nat) : Prop :=
  ∃ A c, Holds w g 59 [.slice A (wholeH xs).length c, .int .i64 (xs.length : Int)] ∧ w.ownsRow 0 28 32 (.slice A (wholeH xs).length c) (wholeH xs).length (hashCells (wholeH xs)) ∧
    (Value.slice A (wholeH xs).length c).ownBlock = r ∧ r ≠ some g ∧ xs.length ≤ 10000000000000

theorem TreeAt.lt {w : World} {g : Nat} {xs : List ByteArray} {r : Option Nat} (h : TreeAt w g xs r) : g < w.heap.size ∧ ∀ k, r = some k → k < w.heap.size := by
  obtain ⟨A, c, h1, h2, rfl, _, _⟩ := h
  exact ⟨h1.lt, fun k hk => (h2.lt k hk).2⟩

theorem row_of_blocks {w w' : World} {B n size : Nat} {e : TypeId} {v : Value} {xs : List Value} (h : w.ownsRow B e size v n xs) (hb : ∀ k, v.ownBlock = some k → w'.heap[k]? = w.heap[k]?) : w'.ownsRow B e size v n xs := by
  refine ⟨h.1, ?_⟩
  rcases h.2 with hn | ⟨q, cap, cur, hv, hb', hq, rest⟩
  · exact .inl hn
  · exact .inr ⟨q, cap, cur, hv, hb', (hb q (by rw [hv]; rfl)).trans hq, rest⟩

theorem TreeAt.keep {w w' : World} {g : Nat} {xs : List ByteArray} {r : Option Nat} (h : TreeAt w g xs r) (hb : Below w.heap.size w w') : TreeAt w' g xs r := by
  have hlt := h.lt
  obtain ⟨A, c, h1, h2, rfl, h3, h4⟩ := h
  exact ⟨A, c, h1.below hb h1.lt, row_of_blocks h2 (fun k hk => hb.block k (hlt.2 k hk)), rfl, h3, h4⟩

/-- Another tree's doings. -/
theorem TreeAt.other {w w' : World} {g g' : Nat} {xs : List ByteArray} {r r' : Option Nat} (h : TreeAt w g xs r) (ht : Turns w w' g' r') (hg : g ≠ g') (hg' : r' ≠ some g) (hr : r ≠ some g') (hrr : r = none ∨ r ≠ r') : TreeAt w' g xs r := by
  have hlt := h.lt
  obtain ⟨A, c, h1, h2, h0, h3, h4⟩ := h
  refine ⟨A, c, ht.holds h1 hg (fun e => hg' e.symm), row_of_blocks h2 (fun k hk => ?_), h0, h3, h4⟩
  rw [h0] at hk
  exact ht.block k (hlt.2 k hk) (fun e => hr (by rw [hk, e])) (by rcases hrr with e | e; (rw [hk] at e; cases e); (rw [← hk]; exact e))

theorem mNew_any (w : World) : Calls Try.prog 13 #[] w fun e w' => e = .returned (.pointer (some ⟨w.heap.size, 0, none⟩)) ∧ TreeAt w' w.heap.size [] none ∧ Below w.heap.size w w' := by
  have hT : ∀ W : World, TreeAt (W.alloc (.cells #[.slice none 0 0, .int .i64 0] 59)) W.heap.size [] none := fun W =>
    ⟨none, 0, Holds.new W _ _, ⟨rfl, .inl ⟨rfl, rfl⟩⟩, rfl, by simp, by simp⟩
  have hT' := hid (hT w)
  clear hT
  go_enter Try.func13, Try.ntmps13
  go_wp2_with fail
  go_ret
  exact ⟨rfl, hT'.out, (Below.refl _ _).alloc (Nat.le_refl _) _⟩

theorem mSize_any (g : Nat) (xs : List ByteArray) (r : Option Nat) (w : World) (h : TreeAt w g xs r) : Calls Try.prog 14 #[.pointer (some ⟨g, 0, none⟩)] w fun e w' => e = .returned (.int .i64 (xs.length : Int)) ∧ w' = w := by
  obtain ⟨A, c, h1, -, -, -, -⟩ := h
  have hc : w.cell? ⟨g, 1, none⟩ = some (.int .i64 (xs.length : Int)) := h1.cell 1
  clear h1
  go_enter Try.func14, Try.ntmps14
  go_wp2_with fail
  go_ret
  exact ⟨rfl, rfl⟩

end Go.Proofs.Ytenfhmpjhbpkpaa
namespace Go.Proofs.Ytenfhmpjhbpkpaa
open Go.RowKit
open Go.Lib (strCells strCells_length strCells_oneCell)
attribute [local irreducible] Sha.compress Sha.blocks Sha.sha Sha.pad

/-- What lies where while a leaf is appended. -/
structure AppAt (w wr : World) (g : Nat) (r : Option Nat) (q N : Nat) (l : List (List UInt8)) (y : List UInt8) (A : Option Addr) (n c : Nat) : Prop where
  t : Holds wr g 59 [.slice A n c, .int .i64 (N : Int)]
  row : wr.ownsRow 0 28 32 (.slice A n c) n (hashCells (Mth.wholes nodeH l))
  hn : (Mth.wholes nodeH l).length = n
  own : (Value.slice A 0 c).ownBlock = r
  ne : r ≠ some g
  nd : Holds wr q 28 (byteCells y)
  lq : w.heap.size ≤ q
  lg : g < w.heap.size
  lr : ∀ k, r = some k → k < w.heap.size
  ts : Turns w wr g r
  lw : ∀ a ∈ l, a.length = 32
  ly : y.length = 32
  ln : l.length ≤ 10000000000000

theorem own_same (A : Option Addr) (n m c : Nat) : (Value.slice A n c).ownBlock = (Value.slice A m c).ownBlock := by cases A <;> rfl

section
variable {w wr w' : World} {g q N n c : Nat} {r : Option Nat} {l : List (List UInt8)} {y : List UInt8} {A : Option Addr}

theorem AppAt.below (h : AppAt w wr g r q N l y A n c) (hb : Below wr.heap.size wr w') : AppAt w w' g r q N l y A n c := by
  have hs := h.ts.size
  refine { h with t := h.t.below hb h.t.lt, row := row_of_blocks h.row (fun k hk => ?_), nd := h.nd.below hb h.nd.lt, ts := ?_ }
  · rw [own_same A n 0, h.own] at hk
    exact hb.block k (Nat.lt_of_lt_of_le (h.lr k hk) hs)
  · exact h.ts.trans (.inl rfl) (Turns.of_below hb g r)

/-- The node is another. -/
theorem AppAt.node (h : AppAt w wr g r q N l y A n c) {z : List UInt8} (hz : z.length = 32) : AppAt w (wr.setCells q 0 (byteCells z)) g r q N l z A n c := by
  have hlq := h.lq
  have hlg := h.lg
  refine { h with t := h.t.fars q 0 _ (by omega), row := row_of_blocks h.row (fun k hk => cells_far _ _ _ _ _ ?_), nd := ?_, ts := ?_, ly := hz }
  · rw [own_same A n 0, h.own] at hk
    have := h.lr k hk
    omega
  · have h1 := h.nd.put 0 (byteCells z) (by rw [byteCells, List.length_map, hz, byteCells, List.length_map, h.ly]; decide)
    rw [put_all _ _ (by rw [byteCells, List.length_map, hz, byteCells, List.length_map, h.ly])] at h1
    exact h1
  · have hb := below_setCells (Below.refl w.heap.size wr) q 0 (byteCells z) hlq
    exact ⟨hb.os.trans h.ts.os, hb.tape.trans h.ts.tape, hb.output.trans h.ts.output, Nat.le_trans h.ts.size hb.size, fun k hk hg hr => (hb.block k hk).trans (h.ts.block k hk hg hr)⟩

/-- The last is off. -/
theorem AppAt.pop {m : List (List UInt8)} {z : List UInt8} {k : Nat} (h : AppAt w wr g r q N l y A (k + 1) c) (he : Mth.wholes nodeH l = Mth.wholes nodeH m ++ [z]) (hm : ∀ a ∈ m, a.length = 32) (hml : m.length ≤ 10000000000000) :
    AppAt w (wr.setCell ⟨g, 0, none⟩ (.slice A k c)) g r q N m y A k c := by
  have hk : (Mth.wholes nodeH m).length = k := by
    have := h.hn
    rw [he, List.length_append] at this
    simpa using this
  have hlq := h.lq
  have hlg := h.lg
  have hrow := h.row
  rw [he] at hrow
  have hp := row_pop (wholes_len m hm) hk hrow
  refine { h with t := h.t.set 0 _, row := row_of_blocks hp (fun j hj => heap_setCell_other _ _ _ _ ?_), hn := hk, nd := h.nd.far _ (by show q ≠ g; omega) _, ts := h.ts.setCell 0 _, lw := hm, ln := hml }
  rw [own_same A k 0, h.own] at hj
  intro e
  exact h.ne (by rw [hj, e])
end

/-- A hash of a row. -/
theorem row_range {w : World} {B rb n c : Nat} {e : TypeId} {hs : List (List UInt8)} (h : w.ownsRow B e 32 (.slice (some ⟨rb, 0, none⟩) n c) n (hashCells hs)) (h32 : ∀ x ∈ hs, x.length = 32) {k : Nat} {x : List UInt8} (hx : hs[k]? = some x) : w.rangeAt rb (k * 32) (byteCells x) := by
  intro j u hu
  have hj : j < 32 := by
    have := (List.getElem?_eq_some_iff.1 hu).1
    rw [byteCells, List.length_map, h32 x (List.mem_of_getElem? hx)] at this
    exact this
  have hc := h.cells (g := rb) rfl (32 * k + j) u ((hashCells_at hs h32 k x hx j hj).trans hu)
  rw [Addr.add_mid, Nat.zero_add, Nat.mul_comm 32 k] at hc
  exact hc

/-- The last node behind the others: what lies then. -/
theorem AppAt.push {w wr W5 W6 : World} {g q N n c g2 cap : Nat} {r : Option Nat} {l : List (List UInt8)} {y : List UInt8} {A : Option Addr} {xs : List ByteArray} (h : AppAt w wr g r q N l y A n c) (hb : Below wr.heap.size wr W5)
    (hR : W6.ownsRow 0 28 32 (.slice (some ⟨g2, 0, none⟩) (n + 1) cap) (n + 1) (hashCells (Mth.wholes nodeH l) ++ byteCells y)) (hg : W5.grownBy W6 (Value.slice A n c).ownBlock) (hf : (Value.slice A n c).ownBlock = some g2 ∨ g2 = W5.heap.size)
    (hx : wholeH xs = Mth.wholes nodeH l ++ [y]) (hN : xs.length = N + 1) (hN2 : N < 10000000000000) :
    TreeAt ((W6.setCell ⟨g, 0, none⟩ (.slice (some ⟨g2, 0, none⟩) (n + 1) cap)).setCell ⟨g, 1, none⟩ (.int .i64 ((N : Int) + 1))) g xs (some g2) ∧
      Turns w ((W6.setCell ⟨g, 0, none⟩ (.slice (some ⟨g2, 0, none⟩) (n + 1) cap)).setCell ⟨g, 1, none⟩ (.int .i64 ((N : Int) + 1))) g r ∧ Fresh w r (some g2) := by
  have h5 := h.below hb
  have hsz := h5.ts.size
  rw [own_same A n 0, h.own] at hg hf
  have hfr : Fresh w r (some g2) := by
    rcases hf with e | e
    · exact .inl e.symm
    · exact .inr ⟨g2, rfl, by omega⟩
  have hne : g2 ≠ g := by
    rintro rfl
    rcases hf with e | e
    · exact h.ne e
    · have := h.lg
      omega
  have hT := h5.t.grown hg (fun e => h.ne e.symm)
  have hxl : (wholeH xs).length = n + 1 := by rw [hx, List.length_append, h.hn]; rfl
  refine ⟨⟨some ⟨g2, 0, none⟩, cap, ?_, ?_, rfl, fun e => hne (Option.some.inj e), by omega⟩, ?_, hfr⟩
  · have hq := (hT.set 0 (.slice (some ⟨g2, 0, none⟩) (n + 1) cap)).set 1 (.int .i64 ((N : Int) + 1))
    rw [hxl, hN]
    exact hq
  · rw [hxl, hx, hashCells_append, hashCells_one]
    refine row_of_blocks hR (fun k hk => ?_)
    obtain rfl : g2 = k := Option.some.inj hk
    rw [heap_setCell_other _ ⟨g, 1, none⟩ _ _ hne, heap_setCell_other _ ⟨g, 0, none⟩ _ _ hne]
  · exact ((h5.ts.trans (.inl rfl) (Turns.of_grown hg g)).setCell 0 _).setCell 1 _

theorem wp_buildSlice_one {P : Program} {o : Oper} {a : Act} {w : World} {K : Act → World → Prop} {Q : Exit → Act → World → Prop} (t e : TypeId) (x : Operand) (ho : o.op = .buildSlice t 1 #[(0, x)]) (i : TypeInfo) (z : Value) (ht : P.underlying t = some (.slice e)) (hi : P.info? e = some i) (hz : i.zero = some z)
    (H : Array Value) (hx : a.eval x = .agg H) (hn : i.size = H.size) (h0 : 0 < H.size) (h1 : H.size ≤ 1000000) (h : K (a.put o.dst (.slice (some ⟨w.heap.size, 0, none⟩) 1 1)) (w.alloc (.cells H e))) : o.wp P a w K Q := by
  have hr := run_buildSlice_one (w := w) t e i z ht hi hz H hn h0 h1
  unfold Oper.wp execOp
  simp only [ho, List.map_toArray, List.map_cons, List.map_nil, hx, Sem.run_bind, hr, Result.andThen_ok, Sem.run_pure]
  exact h

end Go.Proofs.Ytenfhmpjhbpkpaa
namespace Go.Proofs.Ytenfhmpjhbpkpaa
open Go.RowKit
open Go.Lib (strCells strCells_length strCells_oneCell)
attribute [local irreducible] Sha.compress Sha.blocks Sha.sha Sha.pad

theorem wholeH_next (xs : List ByteArray) (x : ByteArray) : Mth.wholes nodeH (leavesH xs ++ [leafH x.data.toList]) = wholeH (xs ++ [x]) := by
  unfold wholeH
  congr 1
  simp [leavesH]

theorem rem_two (n : Nat) : (n : Int).tmod 2 = ((n % 2 : Nat) : Int) := by
  rw [Int.tmod_eq_emod_of_nonneg (by omega)]
  rfl

theorem quo_two (n : Nat) : (n : Int).tdiv 2 = ((n / 2 : Nat) : Int) := by
  rw [Int.tdiv_eq_ediv_of_nonneg (by omega)]
  rfl

set_option maxRecDepth 100000 in
set_option maxHeartbeats 2000000 in
theorem mAppend_any (g : Nat) (xs : List ByteArray) (r : Option Nat) (x : ByteArray) (w : World) (hx : x.size ≤ 140737488351232) (hn : xs.length < 10000000000000) (h : TreeAt w g xs r) :
    Calls Try.prog 17 #[.pointer (some ⟨g, 0, none⟩), .string x] w fun e w' => e = .returned (.tuple #[]) ∧ ∃ r', TreeAt w' g (xs ++ [x]) r' ∧ Turns w w' g r ∧ Fresh w r r' := by
  have hlt := h.lt
  obtain ⟨A0, c0, h1, h2, h3, h4, -⟩ := h
  have hlf := hid (fun W => mLeaf_any x W hx)
  have hC := hid (hash_leaf x.data.toList)
  have hw := hid (wholeH_next xs x)
  unfold hv at hlf
  have hlen := hid (leafH_len x.data.toList)
  obtain ⟨yl, hyl⟩ : ∃ yl, leafH x.data.toList = yl := ⟨_, rfl⟩
  rw [hyl] at hlf hC hlen hw
  have hP0 : ∀ (W2 W3 : World), Below w.heap.size w W2 → (W2.alloc (.cells z32 28)).setCells W2.heap.size 0 (byteCells yl) = W3 → AppAt w W3 g r W2.heap.size xs.length (leavesH xs) yl A0 (wholeH xs).length c0 := fun W2 W3 hb2 hW3 => by
    obtain ⟨hN3, hb3⟩ := hC.out.new hW3
    have hb := hb2.trans (hb3.mono hb2.size)
    exact ⟨h1.below hb hlt.1, row_of_blocks h2 (fun k hk => hb.block k (hlt.2 k (by rw [← h3, hk]))), rfl, by rw [own_same A0 0 (wholeH xs).length, h3], h4, hN3, hb2.size, hlt.1, hlt.2, Turns.of_below hb g r, leavesH_len xs, hlen.out, by rw [leavesH_length]; omega⟩
  have hP0' := hid hP0
  have hlw := hid (leavesH_length xs)
  clear h1 h2 h3 h4 hlt hyl hP0 hlen
  go_enter Try.func17, Try.ntmps17
  go_wp2_with fail
  refine (hlf.out _).mono ?_
  rintro e W2 ⟨rfl, hb2⟩
  have hb2' := hid hb2
  clear hb2
  rename_i hK1
  refine hK1 _ _ ?_
  clear hK1
  go_wp2_with (first
    | ((with_reducible refine at_slot (some 4) ?_); refine wpList_run rfl (.pointer (some ⟨W2.heap.size, 0, none⟩)) (W2.alloc (.cells z32 28)) (by kernel_rfl) ?_)
    | ((with_reducible refine at_slot none ?_); refine wpList_store_mid rfl 28 (.tmp 4) (.tmp 10) rfl W2.heap.size 0 (byteCells yl).toArray rfl rfl (by exact hC.out.there W2) (by exact hC.out.size) (by exact hC.out.one) ?_; generalize hW3 : World.setCells _ _ _ _ = W3
       have hP3 := hid (hP0'.out W2 W3 hb2'.out hW3)
       have hsz3 : W3.cell? ⟨g, 1, none⟩ = some (.int .i64 (xs.length : Int)) := hP3.out.t.cell 1
       clear hW3))
  clear hsz3 hb2' hP0'
  generalize W2.heap.size = q at *
  go_loopw [5] (fun v wr => ∃ (l : List (List UInt8)) (y : List UInt8) (n : Nat), v = .int .i64 (l.length : Int) ∧ AppAt w wr g r q xs.length l y A0 n c0 ∧ Mth.wholes nodeH (l ++ [y]) = wholeH (xs ++ [x])) (fun v _ => (intOf v).toNat)
  case atStart => exact ⟨leavesH xs, yl, _, by rw [hlw.out], hP3.out, hw.out⟩
  case round =>
    obtain ⟨l, y, n, rfl, hP, ht⟩ := hrel
    have hrem := rem_two l.length
    have hquo := quo_two l.length
    have hqw : wrap64 ((l.length : Int) / 2) = ((l.length / 2 : Nat) : Int) := by have := hP.ln; unfold wrap64; omega
    have hP' := hid hP
    have ht' := hid ht
    clear hP ht hP3
    by_cases hodd : l.length % 2 = 1
    · obtain ⟨m, z, e1, e2, e3, e4, e5⟩ := carry_step l y hodd hP'.out.lw
      have hnk : n = (Mth.wholes nodeH m).length + 1 := by rw [← hP'.out.hn, e1]; simp
      obtain ⟨k, hk⟩ : ∃ k, (Mth.wholes nodeH m).length = k := ⟨_, rfl⟩
      rw [hk] at hnk
      subst hnk
      have hrow := hP'.out.row
      rw [e1] at hrow
      obtain ⟨rb, hA, hcap⟩ : ∃ rb, A0 = some ⟨rb, 0, none⟩ ∧ k + 1 ≤ c0 := by
        rcases hrow.2 with ⟨_, h0⟩ | ⟨gg, cap, cur, hv, _, _, h5, _⟩
        · omega
        · injection hv with q1 _ q2
          exact ⟨gg, q1, by omega⟩
      subst hA
      have hzk : (Mth.wholes nodeH m ++ [z])[k]? = some z := by rw [List.getElem?_append_right (by omega), hk, Nat.sub_self]; rfl
      have hw32 : ∀ a ∈ Mth.wholes nodeH m ++ [z], a.length = 32 := by rw [← e1]; exact wholes_len l hP'.out.lw
      have hrg := hid (fun (W : World) (y' : List UInt8) (h : AppAt w W g r q xs.length l y' (some ⟨rb, 0, none⟩) (k + 1) c0) => row_range (k := k) (x := z) (by have hh := h.row; rw [e1] at hh; exact hh) hw32 hzk)
      have hnx := hid (fun (W : World) (h : AppAt w W g r q xs.length l y (some ⟨rb, 0, none⟩) (k + 1) c0) => h.node (nodeH_len z y))
      have hjn := hid (fun W => mJoin_any z y e4 hP'.out.ly W)
      have hCn := hid (hash_node z y)
      have hrest : Hid (∀ W : World, AppAt w W g r q xs.length l (nodeH z y) (some ⟨rb, 0, none⟩) (k + 1) c0 → AppAt w (W.setCell ⟨g, 0, none⟩ (.slice (some ⟨rb, 0, none⟩) k c0)) g r q xs.length m (nodeH z y) (some ⟨rb, 0, none⟩) k c0) := hid (fun W h => h.pop e1 e3 (by have := h.ln; omega))
      have ht2 : Hid (Mth.wholes nodeH (m ++ [nodeH z y]) = wholeH (xs ++ [x])) := hid (by rw [← e5]; exact ht'.out)
      have hml := hid e2
      have hy32 := hid hP'.out.ly
      have hz32 := hid e4
      have hodd' : ((l.length % 2 : Nat) : Int) = 1 := by rw [hodd]; rfl
      rw [hodd'] at hrem
      have hgt : 1 ≤ l.length := by omega
      clear hzk hw32 e1 e2 e3 e4 e5 hrow ht' hodd hodd'
      generalize nodeH z y = nd at *
      have hPd := hid (hP'.out.below (Below.refl _ _).drew)
      have hc0 : wr.cell? ⟨g, 0, none⟩ = some (.slice (some ⟨rb, 0, none⟩) (k + 1) c0) := hP'.out.t.cell 0
      have hkw := IntWalk.i64_in (((k + 1 : Nat) : Int) - 1) (by have := hP'.out.hn; have := wholes_short l; have := hP'.out.ln; omega)
      have hki : ((k + 1 : Nat) : Int) - 1 = (k : Int) := by omega
      rw [hki] at hkw
      unfold hv at hjn
      have hu := Try.underlying28
      have hiz : (Try.prog.info? 28).map (·.size) = some (byteCells z).length := by rw [Try.infoHash, byteCells, List.length_map, hz32.out]
      have hiy : (Try.prog.info? 28).map (·.size) = some (byteCells y).length := by rw [Try.infoHash, byteCells, List.length_map, hy32.out]
      have hcd : wr.drew.cell? ⟨g, 0, none⟩ = some (.slice (some ⟨rb, 0, none⟩) (k + 1) c0) := hPd.out.t.cell 0
      have hrd := hrg.out _ _ hPd.out
      have hk0 : (0 : Int) ≤ (k : Int) := by omega
      have hkl : (k : Int) < (k : Int) + 1 := by omega
      have hto : (k : Int).toNat = k := by omega
      go_wp2_with fail
      refine wp_region_held_drew (S := fun W => W.cell? ⟨g, 0, none⟩ = some (.slice (some ⟨rb, 0, none⟩) (k + 1) c0) ∧ W.rangeAt rb (k * 32) (byteCells z)) (by kernel_rfl) (by exact ⟨hcd, hrd⟩) (fun hHeld => ?_)
      refine wpAnyH_take (i := 0) (v := .pointer (some ⟨g, 0, none⟩)) rfl (by kernel_rfl) (by kernel_rfl) (by kernel_rfl) (fun _ _ _ h => h) (yieldsIf_move _ rfl rfl rfl) hHeld ?_
      simp only [ly1, ly2, ly3, Act.put, ly5, ly6, ly7]
      refine wpAnyH_take (i := 1) (v := .pointer (some ⟨g, 0, none⟩)) rfl (by kernel_rfl) (by kernel_rfl) (by kernel_rfl) (fun _ _ _ h => h) (.inl ⟨by kernel_rfl, fun w _ => by go_simp⟩) hHeld ?_
      simp only [ly1, ly2, ly3, Act.put, ly5, ly6, ly7]
      refine wpAnyH_take (i := 2) (v := .pointer (some ⟨g, 0, none⟩)) rfl (by kernel_rfl) (by kernel_rfl) (by kernel_rfl) (fun _ _ _ h => h) (.inl ⟨by kernel_rfl, fun w _ => by go_simp⟩) hHeld ?_
      simp only [ly1, ly2, ly3, Act.put, ly5, ly6, ly7]
      refine wpAnyH_take (i := 3) (v := .slice (some ⟨rb, 0, none⟩) (k + 1) c0) rfl (by kernel_rfl) (by kernel_rfl) (by kernel_rfl) (fun _ _ _ h => h) (.inl ⟨by kernel_rfl, fun W hS => by have hS' : W.cell? ⟨g, 0, none⟩ = some (.slice (some ⟨rb, 0, none⟩) (k + 1) c0) := hS.1; go_simp⟩) hHeld ?_
      simp only [ly1, ly2, ly3, Act.put, ly5, ly6, ly7]
      refine wpAnyH_take (i := 4) (v := .int .i64 (k : Int)) rfl (by kernel_rfl) (by kernel_rfl) (by kernel_rfl) (fun _ _ _ h => h) (yieldsIf_move _ rfl rfl rfl) hHeld ?_
      simp only [ly1, ly2, ly3, Act.put, ly5, ly6, ly7]
      refine wpAnyH_take (i := 5) (v := .pointer (some ⟨rb, k * 32, none⟩)) rfl (by kernel_rfl) (by kernel_rfl) (by kernel_rfl) (fun _ _ _ h => h) (.inl ⟨by kernel_rfl, fun w _ => by go_simp⟩) hHeld ?_
      simp only [ly1, ly2, ly3, Act.put, ly5, ly6, ly7]
      refine wpAnyH_take (i := 6) (v := .agg (byteCells z).toArray) rfl (by kernel_rfl) (by kernel_rfl) (by kernel_rfl) (fun _ _ _ h => h) (yieldsIf_load_mid (by kernel_rfl) _ _ rfl _ _ rfl _ _ (fun W h => h.2) hu rfl hiz) hHeld ?_
      simp only [ly1, ly2, ly3, Act.put, ly5, ly6, ly7]
      refine wpAnyH_ready (rs := [7]) (by kernel_rfl) (by simp) (AllReadyH.cons rfl (fun K hK => ?_) AllReadyH.nil)
      have hK' := hid hK
      clear hK
      rw [if_pos (by kernel_rfl)]
      simp only [ly1, ly2, ly3]
      refine wp_load_mid _ _ rfl q 0 rfl _ _ (h_all hPd.out.nd) hu rfl hiy ?_
      refine hK'.out _ _ (by exact ⟨hcd, hrd⟩) (fun hHeld => ?_)
      clear hK' K
      clear hcd hrd
      refine wpAnyH_ready (rs := [8]) (by kernel_rfl) (by simp) (AllReadyH.cons rfl (fun K hK => ?_) AllReadyH.nil)
      have hK' := hid hK
      clear hK
      rw [if_pos (by kernel_rfl)]
      simp only [ly1, ly2, ly3]
      go_simp
      refine (hjn.out _).mono ?_
      rintro e W4 ⟨rfl, hb4⟩
      have hP4 := hid (hPd.out.below hb4)
      have hS4 : W4.cell? ⟨g, 0, none⟩ = some (.slice (some ⟨rb, 0, none⟩) (k + 1) c0) ∧ W4.rangeAt rb (k * 32) (byteCells z) := ⟨hP4.out.t.cell 0, hrg.out _ _ hP4.out⟩
      clear hb4
      refine hK'.out _ _ (by exact hS4) (fun hHeld => ?_)
      clear hK' K
      refine wpAnyH_ready (rs := [9]) (by kernel_rfl) (by simp) (AllReadyH.cons rfl (fun K hK => ?_) AllReadyH.nil)
      have hK' := hid hK
      clear hK
      rw [if_pos (by kernel_rfl)]
      simp only [ly1, ly2, ly3]
      refine wp_store_mid _ _ _ rfl q 0 (byteCells nd).toArray rfl rfl (by exact hCn.out.there' hP4.out.nd (by rw [byteCells, List.length_map, hy32.out])) (by exact hCn.out.size) (by exact hCn.out.one) ?_
      have hP5 := hid (hnx.out _ hP4.out)
      have hS5 : (W4.setCells q 0 (byteCells nd)).cell? ⟨g, 0, none⟩ = some (.slice (some ⟨rb, 0, none⟩) (k + 1) c0) ∧ (W4.setCells q 0 (byteCells nd)).rangeAt rb (k * 32) (byteCells z) := ⟨hP5.out.t.cell 0, hrg.out _ _ hP5.out⟩
      refine hK'.out _ _ (by exact hS5) (fun hHeld => ?_)
      clear hK' K
      refine wpAnyH_done (by kernel_rfl) ?_ _
      clear hS4 hS5 hHeld
      generalize hW5 : World.setCells _ _ _ _ = W5
      have e5 : W4.setCells q 0 (byteCells nd) = W5 := hW5
      rw [e5] at hP5
      have hc5 : W5.cell? ⟨g, 0, none⟩ = some (.slice (some ⟨rb, 0, none⟩) (k + 1) c0) := hP5.out.t.cell 0
      have hf5 : W5.frozen? ⟨g, 0, none⟩ = false := hP5.out.t.frozen 0
      have hkc : (k : Int) ≤ (c0 : Int) := by omega
      clear hW5 e5
      go_wp2_with fail
      go_roundw
      case rel => exact ⟨m, nd, k, by rw [hml.out, hqw], hrest.out _ hP5.out, ht2.out⟩
      case measure => rw [hqw]; show (((l.length / 2 : Nat) : Int)).toNat < ((l.length : Nat) : Int).toNat; omega
    · have hodd' : ((l.length % 2 : Nat) : Int) = 0 := by omega
      rw [hodd'] at hrem
      have hwo := Mth.wholes_odd nodeH l y (by omega)
      have hx : wholeH (xs ++ [x]) = Mth.wholes nodeH l ++ [y] := by rw [← ht'.out, hwo]
      have hx' := hid hx
      have hy32 := hid hP'.out.ly
      have hnw : n ≤ 44 := by have := hP'.out.hn; have := wholes_few l hP'.out.ln; omega
      clear hodd hodd' hwo ht' hx
      have hPd := hid (hP'.out.below (Below.refl _ _).drew)
      have hu := Try.underlying28
      have hiy : (Try.prog.info? 28).map (·.size) = some (byteCells y).length := by rw [Try.infoHash, byteCells, List.length_map, hy32.out]
      have hcd : wr.drew.cell? ⟨g, 0, none⟩ = some (.slice A0 n c0) := hPd.out.t.cell 0
      obtain ⟨i0, hi0, hz0, hz1, hz2⟩ := info_parts Try.infoHashD
      have hcl : (byteCells y).length = 1 * 32 := by rw [byteCells, List.length_map, hy32.out]
      have hb5 : Below wr.drew.heap.size wr.drew (wr.drew.alloc (.cells (byteCells y).toArray 28)) := (Below.refl _ _).alloc (Nat.le_refl _) _
      have hP5 := hid (hPd.out.below hb5)
      have hnews := World.news_of_block (heap_alloc_new wr.drew (.cells (byteCells y).toArray 28))
      have h1c := byteCells_one y
      have hsz : Hid ((byteCells y).toArray.size = 32) := hid (by rw [List.size_toArray, byteCells, List.length_map, hy32.out])
      have hcd5 : (wr.drew.alloc (.cells (byteCells y).toArray 28)).cell? ⟨g, 0, none⟩ = some (.slice A0 n c0) := hP5.out.t.cell 0
      have hcd6 : (wr.alloc (.cells (byteCells y).toArray 28)).cell? ⟨g, 0, none⟩ = some (.slice A0 n c0) := hcd5
      go_wp2_with fail
      refine wp_region_held_drew (S := fun W => Holds W q 28 (byteCells y)) (by kernel_rfl) (by exact hPd.out.nd) (fun hHeld => ?_)
      refine wpAnyH_take (i := 0) (v := .pointer (some ⟨g, 0, none⟩)) rfl (by kernel_rfl) (by kernel_rfl) (by kernel_rfl) (fun _ _ _ h => h) (yieldsIf_move _ rfl rfl rfl) hHeld ?_
      simp only [ly1, ly2, ly3, Act.put, ly5, ly6, ly7]
      refine wpAnyH_take (i := 1) (v := .pointer (some ⟨g, 0, none⟩)) rfl (by kernel_rfl) (by kernel_rfl) (by kernel_rfl) (fun _ _ _ h => h) (yieldsIf_move _ rfl rfl rfl) hHeld ?_
      simp only [ly1, ly2, ly3, Act.put, ly5, ly6, ly7]
      refine wpAnyH_take (i := 2) (v := .pointer (some ⟨g, 0, none⟩)) rfl (by kernel_rfl) (by kernel_rfl) (by kernel_rfl) (fun _ _ _ h => h) (.inl ⟨by kernel_rfl, fun w _ => by go_simp⟩) hHeld ?_
      simp only [ly1, ly2, ly3, Act.put, ly5, ly6, ly7]
      refine wpAnyH_take (i := 3) (v := .pointer (some ⟨g, 0, none⟩)) rfl (by kernel_rfl) (by kernel_rfl) (by kernel_rfl) (fun _ _ _ h => h) (.inl ⟨by kernel_rfl, fun w _ => by go_simp⟩) hHeld ?_
      simp only [ly1, ly2, ly3, Act.put, ly5, ly6, ly7]
      refine wpAnyH_take (i := 5) (v := .agg (byteCells y).toArray) rfl (by kernel_rfl) (by kernel_rfl) (by kernel_rfl) (fun _ _ _ h => h) (yieldsIf_load_mid (by kernel_rfl) _ _ rfl _ _ rfl _ _ (fun W h => h_all h) hu rfl hiy) hHeld ?_
      simp only [ly1, ly2, ly3, Act.put, ly5, ly6, ly7]
      refine wpAnyH_ready (rs := [4, 6]) (by kernel_rfl) (by simp) (AllReadyH.cons rfl (fun K hK => ?_) (AllReadyH.cons rfl (fun K hK => ?_) AllReadyH.nil))
      · have hK' := hid hK
        clear hK
        rw [if_pos (by kernel_rfl)]
        simp only [ly1, ly2, ly3]
        go_simp
        refine hK'.out _ _ (by exact hPd.out.nd) (fun hHeld => ?_)
        clear hK' K
        refine wpAnyH_ready (rs := [6]) (by kernel_rfl) (by simp) (AllReadyH.cons rfl (fun K hK => ?_) AllReadyH.nil)
        have hK' := hid hK
        clear hK
        rw [if_pos (by kernel_rfl)]
        simp only [ly1, ly2, ly3]
        refine wp_buildSlice_one 41 28 _ rfl i0 _ Try.underlying41 hi0 hz0 (byteCells y).toArray rfl (by rw [hz1]; exact hsz.out.symm) (by rw [hsz.out]; decide) (by rw [hsz.out]; decide) ?_
        refine hK'.out _ _ (by exact hP5.out.nd) (fun hHeld => ?_)
        clear hK' K
        refine wpAnyH_ready (rs := [7]) (by kernel_rfl) (by simp) (AllReadyH.cons rfl (fun K hK => ?_) AllReadyH.nil)
        have hK' := hid hK
        clear hK
        rw [if_pos (by kernel_rfl)]
        simp only [ly1, ly2, ly3]
        refine wp_append_lies _ _ _ 41 rfl 0 28 i0 (.agg z32) 32 32 Try.underlying41 hi0 hz0 hz1 hz2 rfl (by omega) (.slice A0 n c0) n _ rfl hP5.out.row ⟨wr.drew.heap.size, 0, none⟩ 1 1 (byteCells y) rfl hcl hnews h1c (by omega) (by unfold maxLen; omega) (by omega) (Nat.zero_le _) _ rfl ?_
        intro g2 cap W6 hR6 hg6 hf6 hl6
        have hN6 : Holds W6 q 28 (byteCells y) := by
          refine hP5.out.nd.grown hg6 (fun e => ?_)
          rw [own_same A0 n 0, hP5.out.own] at e
          have := hP5.out.lr q e.symm
          have := hP5.out.lq
          omega
        have hp6 := fun xs' => hPd.out.push (xs := xs') hb5 hR6 hg6 hf6
        have hT6 : Holds W6 g 59 [.slice A0 n c0, .int .i64 (xs.length : Int)] := hP5.out.t.grown hg6 (fun e => by rw [own_same A0 n 0, hP5.out.own] at e; exact hP5.out.ne e.symm)
        have hp6' := hid (hp6 (xs ++ [x]) hx'.out (by simp) hn)
        have hT6' := hid hT6
        have hf6' : W6.frozen? ⟨g, 0, none⟩ = false := hT6.frozen 0
        have hg0 : W6.cell? ⟨g, 0, none⟩ = some (.slice A0 n c0) := hT6.cell 0
        have hqg : q ≠ g := by have := hP5.out.lq; have := hP5.out.lg; omega
        have hN7 : Holds (W6.setCell ⟨g, 0, none⟩ (.slice (some ⟨g2, 0, none⟩) (n + 1) cap)) q 28 (byteCells y) := hN6.far ⟨g, 0, none⟩ hqg _
        have hc7 : (W6.setCell ⟨g, 0, none⟩ (.slice (some ⟨g2, 0, none⟩) (n + 1) cap)).cell? ⟨g, 1, none⟩ = some (.int .i64 (xs.length : Int)) := (hT6.set 0 (.slice (some ⟨g2, 0, none⟩) (n + 1) cap)).cell 1
        have hf7 : (W6.setCell ⟨g, 0, none⟩ (.slice (some ⟨g2, 0, none⟩) (n + 1) cap)).frozen? ⟨g, 1, none⟩ = false := (hT6.set 0 (.slice (some ⟨g2, 0, none⟩) (n + 1) cap)).frozen 1
        clear hp6 hR6 hg6 hf6 hl6 hT6
        refine hK'.out _ _ (by exact hN6) (fun hHeld => ?_)
        clear hK' K
        refine wpAnyH_take (i := 8) (v := .pointer (some ⟨g, 0, none⟩)) rfl (by kernel_rfl) (by kernel_rfl) (by kernel_rfl) (fun _ _ _ h => h) (.inl ⟨by kernel_rfl, fun w _ => by go_simp⟩) hHeld ?_
        simp only [ly1, ly2, ly3, Act.put, ly5, ly6, ly7]
        refine wpAnyH_take (i := 9) (v := .pointer (some ⟨g, 0, none⟩)) rfl (by kernel_rfl) (by kernel_rfl) (by kernel_rfl) (fun _ _ _ h => h) (.inl ⟨by kernel_rfl, fun w _ => by go_simp⟩) hHeld ?_
        simp only [ly1, ly2, ly3, Act.put, ly5, ly6, ly7]
        refine wpAnyH_ready (rs := [10]) (by kernel_rfl) (by simp) (AllReadyH.cons rfl (fun K hK => ?_) AllReadyH.nil)
        have hK' := hid hK
        clear hK
        rw [if_pos (by kernel_rfl)]
        simp only [ly1, ly2, ly3]
        go_simp
        refine hK'.out _ _ (by exact hN7) (fun hHeld => ?_)
        clear hK' K
        refine wpAnyH_done (by kernel_rfl) ?_ _
        clear hN6 hN7 hHeld hf6' hg0
        have hsum := IntWalk.i64_in ((xs.length : Int) + 1) (by omega)
        generalize hW7 : World.setCell _ _ _ = W7
        have e7 : W6.setCell ⟨g, 0, none⟩ (.slice (some ⟨g2, 0, none⟩) (n + 1) cap) = W7 := hW7
        rw [e7] at hp6' hc7 hf7
        clear hW7 e7
        go_wp2_with fail
        go_end0
        exact ⟨rfl, some g2, hp6'.out⟩
      · have hK' := hid hK
        clear hK
        rw [if_pos (by kernel_rfl)]
        simp only [ly1, ly2, ly3]
        refine wp_buildSlice_one 41 28 _ rfl i0 _ Try.underlying41 hi0 hz0 (byteCells y).toArray rfl (by rw [hz1]; exact hsz.out.symm) (by rw [hsz.out]; decide) (by rw [hsz.out]; decide) ?_
        refine hK'.out _ _ (by exact hP5.out.nd) (fun hHeld => ?_)
        clear hK' K
        refine wpAnyH_ready (rs := [4]) (by kernel_rfl) (by simp) (AllReadyH.cons rfl (fun K hK => ?_) AllReadyH.nil)
        have hK' := hid hK
        clear hK
        rw [if_pos (by kernel_rfl)]
        simp only [ly1, ly2, ly3]
        go_simp
        refine hK'.out _ _ (by exact hP5.out.nd) (fun hHeld => ?_)
        clear hK' K
        refine wpAnyH_ready (rs := [7]) (by kernel_rfl) (by simp) (AllReadyH.cons rfl (fun K hK => ?_) AllReadyH.nil)
        have hK' := hid hK
        clear hK
        rw [if_pos (by kernel_rfl)]
        simp only [ly1, ly2, ly3]
        refine wp_append_lies _ _ _ 41 rfl 0 28 i0 (.agg z32) 32 32 Try.underlying41 hi0 hz0 hz1 hz2 rfl (by omega) (.slice A0 n c0) n _ rfl hP5.out.row ⟨wr.drew.heap.size, 0, none⟩ 1 1 (byteCells y) rfl hcl hnews h1c (by omega) (by unfold maxLen; omega) (by omega) (Nat.zero_le _) _ rfl ?_
        intro g2 cap W6 hR6 hg6 hf6 hl6
        have hN6 : Holds W6 q 28 (byteCells y) := by
          refine hP5.out.nd.grown hg6 (fun e => ?_)
          rw [own_same A0 n 0, hP5.out.own] at e
          have := hP5.out.lr q e.symm
          have := hP5.out.lq
          omega
        have hp6 := fun xs' => hPd.out.push (xs := xs') hb5 hR6 hg6 hf6
        have hT6 : Holds W6 g 59 [.slice A0 n c0, .int .i64 (xs.length : Int)] := hP5.out.t.grown hg6 (fun e => by rw [own_same A0 n 0, hP5.out.own] at e; exact hP5.out.ne e.symm)
        have hp6' := hid (hp6 (xs ++ [x]) hx'.out (by simp) hn)
        have hT6' := hid hT6
        have hf6' : W6.frozen? ⟨g, 0, none⟩ = false := hT6.frozen 0
        have hg0 : W6.cell? ⟨g, 0, none⟩ = some (.slice A0 n c0) := hT6.cell 0
        have hqg : q ≠ g := by have := hP5.out.lq; have := hP5.out.lg; omega
        have hN7 : Holds (W6.setCell ⟨g, 0, none⟩ (.slice (some ⟨g2, 0, none⟩) (n + 1) cap)) q 28 (byteCells y) := hN6.far ⟨g, 0, none⟩ hqg _
        have hc7 : (W6.setCell ⟨g, 0, none⟩ (.slice (some ⟨g2, 0, none⟩) (n + 1) cap)).cell? ⟨g, 1, none⟩ = some (.int .i64 (xs.length : Int)) := (hT6.set 0 (.slice (some ⟨g2, 0, none⟩) (n + 1) cap)).cell 1
        have hf7 : (W6.setCell ⟨g, 0, none⟩ (.slice (some ⟨g2, 0, none⟩) (n + 1) cap)).frozen? ⟨g, 1, none⟩ = false := (hT6.set 0 (.slice (some ⟨g2, 0, none⟩) (n + 1) cap)).frozen 1
        clear hp6 hR6 hg6 hf6 hl6 hT6
        refine hK'.out _ _ (by exact hN6) (fun hHeld => ?_)
        clear hK' K
        refine wpAnyH_take (i := 8) (v := .pointer (some ⟨g, 0, none⟩)) rfl (by kernel_rfl) (by kernel_rfl) (by kernel_rfl) (fun _ _ _ h => h) (.inl ⟨by kernel_rfl, fun w _ => by go_simp⟩) hHeld ?_
        simp only [ly1, ly2, ly3, Act.put, ly5, ly6, ly7]
        refine wpAnyH_take (i := 9) (v := .pointer (some ⟨g, 0, none⟩)) rfl (by kernel_rfl) (by kernel_rfl) (by kernel_rfl) (fun _ _ _ h => h) (.inl ⟨by kernel_rfl, fun w _ => by go_simp⟩) hHeld ?_
        simp only [ly1, ly2, ly3, Act.put, ly5, ly6, ly7]
        refine wpAnyH_ready (rs := [10]) (by kernel_rfl) (by simp) (AllReadyH.cons rfl (fun K hK => ?_) AllReadyH.nil)
        have hK' := hid hK
        clear hK
        rw [if_pos (by kernel_rfl)]
        simp only [ly1, ly2, ly3]
        go_simp
        refine hK'.out _ _ (by exact hN7) (fun hHeld => ?_)
        clear hK' K
        refine wpAnyH_done (by kernel_rfl) ?_ _
        clear hN6 hN7 hHeld hf6' hg0
        have hsum := IntWalk.i64_in ((xs.length : Int) + 1) (by omega)
        generalize hW7 : World.setCell _ _ _ = W7
        have e7 : W6.setCell ⟨g, 0, none⟩ (.slice (some ⟨g2, 0, none⟩) (n + 1) cap) = W7 := hW7
        rw [e7] at hp6' hc7 hf7
        clear hW7 e7
        go_wp2_with fail
        go_end0
        exact ⟨rfl, some g2, hp6'.out⟩

end Go.Proofs.Ytenfhmpjhbpkpaa
