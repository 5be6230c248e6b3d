/- Layer 11: what every program answers that is one. -/
import Derived.Test.YtpjfhbmegabafaaObRf
import Derived.Test.YtpjfhbmegabafaaObPr
import Derived.Test.YtpjfhbmegabafaaShaNu
import Derived.Test.YtpjfhbmegabafaaNum0
namespace Go.Proofs.Ytpjfhbmegabafaa
open Go.RowKit
open Go.Lib (strCells strCells_length strCells_oneCell)
attribute [local irreducible] Sha.compress Sha.blocks Sha.sha Sha.pad

theorem obHash_ne (x y : ByteArray) (hx : (tagL 0 [x]).length < 1000000000000000) (hy : (tagL 0 [y]).length < 1000000000000000)
    (h : Nat.beq (Sha.shaN (Sha.bn (tagL 0 [x])) (tagL 0 [x]).length) (Sha.shaN (Sha.bn (tagL 0 [y])) (tagL 0 [y]).length) = false) : obHash x ≠ obHash y := by
  intro e
  have e2 := congrArg Sha.bn e
  unfold obHash at e2
  rw [Sha.sha_num _ hx, Sha.sha_num _ hy] at e2
  rw [e2] at h
  exact absurd h (by simp)
theorem obHash_nz (x : ByteArray) (hx : (tagL 0 [x]).length < 1000000000000000) (h : Nat.beq (Sha.shaN (Sha.bn (tagL 0 [x])) (tagL 0 [x]).length) 0 = false) : obHash x ≠ List.replicate 32 0 := by
  intro e
  have e2 := congrArg Sha.bn e
  unfold obHash at e2
  rw [Sha.sha_num _ hx] at e2
  have e3 : Sha.bn (List.replicate 32 0) = 0 := by decide
  rw [e3] at e2
  rw [e2] at h
  exact absurd h (by simp)
def tAB : ByteArray := ⟨#[97, 98]⟩
def tCD : ByteArray := ⟨#[99, 100]⟩
def tX : ByteArray := ⟨#[120]⟩
theorem ne_cd : obHash tCD ≠ obHash tAB := obHash_ne _ _ (by decide) (by decide) (by kernel_rfl)
theorem ne_x : obHash tX ≠ obHash tAB := obHash_ne _ _ (by decide) (by decide) (by kernel_rfl)
theorem nz_ab : obHash tAB ≠ List.replicate 32 0 := obHash_nz _ (by decide) (by kernel_rfl)
def mAB : Obs := [(obHash tAB, tAB)]
theorem ans_ab : putAns 1 [] tAB = (obHash tAB, 0, mAB) := by
  unfold putAns
  rw [if_neg (by decide), if_neg (by simp [obGet]), if_pos (by decide)]
  rfl
theorem get_ab : obGet mAB (obHash tAB) = some tAB := by simp [obGet, mAB]
theorem get_cd : obGet mAB (obHash tCD) = none := by
  rw [obGet_none]
  intro p hp
  rw [List.mem_singleton.1 hp]
  exact fun e => ne_cd e.symm
theorem get_zero : obGet mAB (List.replicate 32 0) = none := by
  rw [obGet_none]
  intro p hp
  rw [List.mem_singleton.1 hp]
  exact nz_ab
theorem ans_cd : putAns 1 mAB tCD = (List.replicate 32 0, 1102, mAB) := by
  unfold putAns
  rw [if_neg (by decide), get_cd, if_neg (by simp), if_neg (by decide)]
theorem ans_again : putAns 1 mAB tAB = (obHash tAB, 0, mAB) := by
  unfold putAns
  rw [if_neg (by decide), get_ab, if_pos (by simp)]
theorem add_x : addAns 1 mAB (obHash tAB) tX = (1100, mAB) := by
  unfold addAns
  rw [if_pos (.inr ne_x)]
theorem add_ab : addAns 1 mAB (obHash tAB) tAB = (0, mAB) := by
  unfold addAns
  rw [if_neg (fun h => h.elim (by decide) (fun h => h rfl)), ans_again]
set_option maxRecDepth 100000 in
set_option maxHeartbeats 4000000 in
theorem awake11_any (w : World) : Calls Try.prog 14 #[] w fun e w' => e = .returned (.bool true) ∧ Below w.heap.size w w' := by
  have hN1 := hid (fun W => obNew_yes 1 (by decide) (by decide) W)
  have hN0 := hid (fun W => obNew_no 0 (by decide) W)
  obtain ⟨l, hl⟩ : ∃ l, obHash tAB = l := ⟨_, rfl⟩
  have l32 : l.length = 32 := by rw [← hl]; exact obHash_len _
  have hPab := hid (fun s W (h : StoreAt W s w.heap.size 1 []) => by have := obPut_any s w.heap.size 1 [] tAB W h; rw [ans_ab] at this; exact this)
  have hPcd := hid (fun s W (h : StoreAt W s w.heap.size 1 mAB) => by have := obPut_any s w.heap.size 1 mAB tCD W h; rw [ans_cd] at this; exact this)
  have hGab := hid (fun s W (h : StoreAt W s w.heap.size 1 mAB) => by have := obGet_any s w.heap.size 1 mAB (obHash tAB) (obHash_len _) W h; rw [get_ab] at this; exact this)
  have hGz := hid (fun s W (h : StoreAt W s w.heap.size 1 mAB) => by have := obGet_any s w.heap.size 1 mAB (List.replicate 32 0) rfl W h; rw [get_zero, ← z32_eq] at this; exact this)
  have hAx := hid (fun s W (h : StoreAt W s w.heap.size 1 mAB) => by have := obAdd_any s w.heap.size 1 mAB (obHash tAB) (obHash_len _) tX W h; rw [add_x] at this; exact this)
  have hAab := hid (fun s W (h : StoreAt W s w.heap.size 1 mAB) => by have := obAdd_any s w.heap.size 1 mAB (obHash tAB) (obHash_len _) tAB W h; rw [add_ab] at this; exact this)
  have hLn := hid (fun s W (h : StoreAt W s w.heap.size 1 mAB) => obLen_any s w.heap.size 1 mAB W h)
  have hOb := hid (fun W => show Calls Try.prog 17 #[.string ⟨#[97, 98]⟩] W fun e w' => e = .returned (.agg (byteCells (obHash tAB)).toArray) ∧ Below W.heap.size W w' from by
    have := rObject_any tAB (by decide) W
    rw [show objAns tAB = obHash tAB from if_pos (by decide)] at this
    exact this)
  have hC := hid (hash_cells l l32)
  have hC2 := hid (show (Try.prog.info? 33).map (·.size) = some (byteCells l).length from by have := hC.out.size; rwa [List.size_toArray] at this)
  have hZC := hid (show HashCells z32.toList from by rw [z32_eq]; exact hash_cells _ rfl)
  rw [hl] at hPab hGab hAx hAab hOb
  have hl32 := hid l32
  clear hl l32
  go_enter Try.func14, Try.ntmps14
  go_wp2_with fail
  refine (hN1.out _).mono ?_
  rintro e W1 ⟨rfl, hA, hB⟩
  have hA1 := hid hA
  have hB1 := hid hB
  clear hA hB
  try (rename_i hKK; refine hKK _ _ ?_; clear hKK)
  go_wp2_with fail
  refine (hN0.out _).mono ?_
  rintro e w' ⟨rfl, hw⟩
  obtain rfl := hw.symm
  clear hw
  try (rename_i hKK; refine hKK _ _ ?_; clear hKK)
  go_wp2_with (first
    | (go_at_call 13; refine (errNum_any _ _).mono ?_; rintro e w' ⟨rfl, rfl⟩)
    | fail)
  refine (hPab.out _ _ hA1.out).mono ?_
  rintro e W2 ⟨rfl, hA, hg⟩
  have hA2 := hid hA
  have hB2 := hid (hB1.out.grown hg hB1.out.size (fun i e => by have := Option.some.inj e; omega))
  clear hA hg hA1 hB1
  try (rename_i hKK; refine hKK _ _ ?_; clear hKK)
  have hlt5 := hid (show w.heap.size < W2.heap.size from hA2.out.2.1.lt)
  go_wp2_with (first
    | ((with_reducible refine at_slot (some 5) ?_); refine wpList_run rfl (.pointer (some ⟨W2.heap.size, 0, none⟩)) (W2.alloc (.cells z32 33)) (by kernel_rfl) ?_)
    | ((with_reducible refine at_slot none ?_); refine wpList_store_mid rfl 33 (.tmp 5) (.tmp 33) rfl W2.heap.size 0 (byteCells l).toArray rfl rfl (by exact hC.out.there W2) (by exact hC.out.size) (by exact hC.out.one) ?_; generalize hW : World.setCells _ _ _ _ = W3; obtain ⟨hN, hb⟩ := hC.out.new hW; have hA3 := hid (hA2.out.on hb); have hB3 := hid (below_up hb hB2.out); have hX3 := hid hN; clear hb hA2 hB2 hN; clear hW)
    | fail)
  obtain ⟨g5, hg5⟩ : ∃ g, W2.heap.size = g := ⟨_, rfl⟩
  rw [hg5] at hX3 hlt5 ⊢
  clear hg5
  have hneX := hid hlt5.out
  refine (hPcd.out _ _ hA3.out).mono ?_
  rintro e W4 ⟨rfl, hA, hg⟩
  have hA4 := hid hA
  have hB4 := hid (hB3.out.grown hg hB3.out.size (fun i e => by have := Option.some.inj e; omega))
  have hX4 := hid (hb_neb hX3.out hg (by have := hneX.out; omega))
  clear hA hg hA3 hB3 hX3
  try (rename_i hKK; refine hKK _ _ ?_; clear hKK)
  go_wp2_with (first
    | ((with_reducible refine at_slot (some 7) ?_); refine wpList_run rfl (.pointer (some ⟨W4.heap.size, 0, none⟩)) (W4.alloc (.cells z32 33)) (by kernel_rfl) ?_)
    | ((with_reducible refine at_slot none ?_); refine wpList_store_mid rfl 33 (.tmp 7) (.tmp 38) rfl W4.heap.size 0 z32 rfl rfl (by exact (Holds.new W4 33 z32).there 0 _ (Nat.le_refl 32)) (by kernel_rfl) (by kernel_rfl) ?_; generalize hW : World.setCells _ _ _ _ = W5; have hb : Below W4.heap.size W4 W5 := below_put ((Below.refl _ _).alloc (Nat.le_refl _) _) (Nat.le_refl _) hW; have hA5 := hid (hA4.out.on hb); have hB5 := hid (below_up hb hB4.out); have hX5 := hid (hX4.out.below hb hX4.out.lt); clear hb hA4 hB4 hX4; clear hW)
    | ((with_reducible refine at_slot (some 42) ?_); refine wpList_load_mid rfl 33 (.tmp 5) rfl g5 0 rfl (byteCells l) _ (by exact h_all hX5.out) Try.underlying33 rfl (by exact hC2.out) ?_)
    | fail)
  refine (hGab.out _ _ hA5.out).mono ?_
  rintro e W6 ⟨rfl, hb⟩
  have hA6 := hid (hA5.out.on hb)
  have hB6 := hid (below_up hb hB5.out)
  have hX6 := hid (hX5.out.below hb hX5.out.lt)
  clear hb hA5 hB5 hX5
  try (rename_i hKK; refine hKK _ _ ?_; clear hKK)
  go_wp2_with (first
    | ((with_reducible refine at_slot (some 48) ?_); refine wpList_run rfl (.agg z32) W6 (by kernel_rfl) ?_)
    | fail)
  refine (hGz.out _ _ hA6.out).mono ?_
  rintro e W7 ⟨rfl, hb⟩
  have hA7 := hid (hA6.out.on hb)
  have hB7 := hid (below_up hb hB6.out)
  have hX7 := hid (hX6.out.below hb hX6.out.lt)
  clear hb hA6 hB6 hX6
  try (rename_i hKK; refine hKK _ _ ?_; clear hKK)
  go_wp2_with (first
    | ((with_reducible refine at_slot (some 53) ?_); refine wpList_load_mid rfl 33 (.tmp 5) rfl g5 0 rfl (byteCells l) _ (by exact h_all hX7.out) Try.underlying33 rfl (by exact hC2.out) ?_)
    | fail)
  refine (hAx.out _ _ hA7.out).mono ?_
  rintro e W8 ⟨rfl, hA, hg⟩
  have hA8 := hid hA
  have hB8 := hid (hB7.out.grown hg hB7.out.size (fun i e => by have := Option.some.inj e; omega))
  have hX8 := hid (hb_neb hX7.out hg (by have := hneX.out; omega))
  clear hA hg hA7 hB7 hX7
  go_wp2_with (first
    | ((with_reducible refine at_slot (some 56) ?_); refine wpList_load_mid rfl 33 (.tmp 5) rfl g5 0 rfl (byteCells l) _ (by exact h_all hX8.out) Try.underlying33 rfl (by exact hC2.out) ?_)
    | fail)
  refine (hAab.out _ _ hA8.out).mono ?_
  rintro e W9 ⟨rfl, hA, hg⟩
  have hA9 := hid hA
  have hB9 := hid (hB8.out.grown hg hB8.out.size (fun i e => by have := Option.some.inj e; omega))
  have hX9 := hid (hb_neb hX8.out hg (by have := hneX.out; omega))
  clear hA hg hA8 hB8 hX8
  go_wp2_with fail
  have hb : Below W9.heap.size W9 W9.drew := (Below.refl _ _).drew
  have hA10 := hid (hA9.out.on hb)
  have hB10 := hid (below_up hb hB9.out)
  have hX10 := hid (hX9.out.below hb hX9.out.lt)
  clear hb hA9 hB9 hX9
  refine wp_region_held_drew (S := fun V => StoreAt V (w.heap.size + 1) w.heap.size 1 mAB ∧ Holds V g5 33 (byteCells l)) (by kernel_rfl) (by exact ⟨hA10.out, hX10.out⟩) (fun hHeld => ?_)
  generalize W9.drew = W10 at *
  refine tkn 0 (.int .i64 1100) rfl (by kernel_rfl) (fun _ _ _ h => h) (yieldsIf_move _ rfl rfl rfl) hHeld ?_
  simp only [ly, Act.put]
  refine wpAnyH_ready (rs := [1]) (by kernel_rfl) (by simp) (AllReadyH.cons rfl (fun K hK => ?_) AllReadyH.nil)
  have hK' := hid hK
  clear hK
  rw [if_pos (by kernel_rfl)]
  simp only [ly1, ly2, ly3]
  go_simp
  refine (errNum_any _ _).mono ?_
  rintro e w' ⟨rfl, rfl⟩
  refine hK'.out _ _ (by exact ⟨hA10.out, hX10.out⟩) (fun hHeld => ?_)
  clear hK' K
  refine tkn 2 (.bool true) rfl (by kernel_rfl) (fun _ _ _ h => h) (.inl ⟨by kernel_rfl, fun w _ => by go_simp⟩) hHeld ?_
  simp only [ly, Act.put]
  refine tkn 3 (.bool true) rfl (by kernel_rfl) (fun _ _ _ h => h) (yieldsIf_move _ rfl rfl rfl) hHeld ?_
  simp only [ly, Act.put]
  refine tkn 4 (.agg (byteCells l).toArray) rfl (by kernel_rfl) (fun _ _ _ h => h) (yieldsIf_load_any (by kernel_rfl) _ _ rfl ⟨g5, 0, none⟩ rfl (byteCells l) _ (fun V hS => hS.2.anyO) Try.underlying33 rfl (by exact hC2.out)) hHeld ?_
  simp only [ly, Act.put]
  refine wpAnyH_ready (rs := [5]) (by kernel_rfl) (by simp) (AllReadyH.cons rfl (fun K hK => ?_) AllReadyH.nil)
  have hK' := hid hK
  clear hK
  rw [if_pos (by kernel_rfl)]
  simp only [ly1, ly2, ly3]
  go_simp
  refine (hOb.out _).mono ?_
  rintro e W11 ⟨rfl, hb⟩
  have hA11 := hid (hA10.out.on hb)
  have hB11 := hid (below_up hb hB10.out)
  have hX11 := hid (hX10.out.below hb hX10.out.lt)
  clear hb hA10 hB10 hX10
  refine hK'.out _ _ (by exact ⟨hA11.out, hX11.out⟩) (fun hHeld => ?_)
  clear hK' K
  refine tkn 6 (.bool true) rfl (by kernel_rfl) (fun _ _ _ h => h) (yieldsIf_zeql (by kernel_rfl) (.tmp 62) (.tmp 63) _ rfl l l (by exact hl32.out) (by exact hl32.out) true (beq_self_eq_true _) rfl rfl) hHeld ?_
  simp only [ly, Act.put]
  refine tkn 7 (.bool true) rfl (by kernel_rfl) (fun _ _ _ h => h) (yieldsIf_pick _ _ _ rfl rfl rfl rfl) hHeld ?_
  simp only [ly, Act.put]
  refine tkn 8 (.bool true) rfl (by kernel_rfl) (fun _ _ _ h => h) (yieldsIf_move _ rfl rfl rfl) hHeld ?_
  simp only [ly, Act.put]
  refine tkn 9 (.int .i64 0) rfl (by kernel_rfl) (fun _ _ _ h => h) (.inl ⟨by kernel_rfl, fun w _ => by go_simp⟩) hHeld ?_
  simp only [ly, Act.put]
  refine wpAnyH_ready (rs := [10]) (by kernel_rfl) (by simp) (AllReadyH.cons rfl (fun K hK => ?_) AllReadyH.nil)
  have hK' := hid hK
  clear hK
  rw [if_pos (by kernel_rfl)]
  simp only [ly1, ly2, ly3]
  go_simp
  refine (errNum_any _ _).mono ?_
  rintro e w' ⟨rfl, rfl⟩
  refine hK'.out _ _ (by exact ⟨hA11.out, hX11.out⟩) (fun hHeld => ?_)
  clear hK' K
  refine tkn 11 (.bool true) rfl (by kernel_rfl) (fun _ _ _ h => h) (.inl ⟨by kernel_rfl, fun w _ => by go_simp⟩) hHeld ?_
  simp only [ly, Act.put]
  refine tkn 12 (.bool true) rfl (by kernel_rfl) (fun _ _ _ h => h) (yieldsIf_pick _ _ _ rfl rfl rfl rfl) hHeld ?_
  simp only [ly, Act.put]
  refine tkn 13 (.bool true) rfl (by kernel_rfl) (fun _ _ _ h => h) (yieldsIf_move _ rfl rfl rfl) hHeld ?_
  simp only [ly, Act.put]
  refine tkn 14 (.int .i64 1102) rfl (by kernel_rfl) (fun _ _ _ h => h) (.inl ⟨by kernel_rfl, fun w _ => by go_simp⟩) hHeld ?_
  simp only [ly, Act.put]
  refine wpAnyH_ready (rs := [15]) (by kernel_rfl) (by simp) (AllReadyH.cons rfl (fun K hK => ?_) AllReadyH.nil)
  have hK' := hid hK
  clear hK
  rw [if_pos (by kernel_rfl)]
  simp only [ly1, ly2, ly3]
  go_simp
  refine (errNum_any _ _).mono ?_
  rintro e w' ⟨rfl, rfl⟩
  refine hK'.out _ _ (by exact ⟨hA11.out, hX11.out⟩) (fun hHeld => ?_)
  clear hK' K
  refine tkn 16 (.bool true) rfl (by kernel_rfl) (fun _ _ _ h => h) (.inl ⟨by kernel_rfl, fun w _ => by go_simp⟩) hHeld ?_
  simp only [ly, Act.put]
  refine tkn 17 (.bool true) rfl (by kernel_rfl) (fun _ _ _ h => h) (yieldsIf_pick _ _ _ rfl rfl rfl rfl) hHeld ?_
  simp only [ly, Act.put]
  refine tkn 18 (.bool true) rfl (by kernel_rfl) (fun _ _ _ h => h) (yieldsIf_move _ rfl rfl rfl) hHeld ?_
  simp only [ly, Act.put]
  refine tkn 19 (.string tAB) rfl (by kernel_rfl) (fun _ _ _ h => h) (.inl ⟨by kernel_rfl, fun w _ => by go_simp⟩) hHeld ?_
  simp only [ly, Act.put]
  refine tkn 20 (.bool true) rfl (by kernel_rfl) (fun _ _ _ h => h) (.inl ⟨by kernel_rfl, fun w _ => by have hab : tAB.toList = [97, 98] := (by rw [Lib.toList_data]; rfl); go_simp⟩) hHeld ?_
  simp only [ly, Act.put]
  refine tkn 21 (.bool true) rfl (by kernel_rfl) (fun _ _ _ h => h) (yieldsIf_pick _ _ _ rfl rfl rfl rfl) hHeld ?_
  simp only [ly, Act.put]
  refine tkn 22 (.bool true) rfl (by kernel_rfl) (fun _ _ _ h => h) (yieldsIf_move _ rfl rfl rfl) hHeld ?_
  simp only [ly, Act.put]
  refine tkn 23 (.int .i64 0) rfl (by kernel_rfl) (fun _ _ _ h => h) (.inl ⟨by kernel_rfl, fun w _ => by go_simp⟩) hHeld ?_
  simp only [ly, Act.put]
  refine wpAnyH_ready (rs := [24]) (by kernel_rfl) (by simp) (AllReadyH.cons rfl (fun K hK => ?_) AllReadyH.nil)
  have hK' := hid hK
  clear hK
  rw [if_pos (by kernel_rfl)]
  simp only [ly1, ly2, ly3]
  go_simp
  refine (errNum_any _ _).mono ?_
  rintro e w' ⟨rfl, rfl⟩
  refine hK'.out _ _ (by exact ⟨hA11.out, hX11.out⟩) (fun hHeld => ?_)
  clear hK' K
  refine tkn 25 (.bool true) rfl (by kernel_rfl) (fun _ _ _ h => h) (.inl ⟨by kernel_rfl, fun w _ => by go_simp⟩) hHeld ?_
  simp only [ly, Act.put]
  refine tkn 26 (.bool true) rfl (by kernel_rfl) (fun _ _ _ h => h) (yieldsIf_pick _ _ _ rfl rfl rfl rfl) hHeld ?_
  simp only [ly, Act.put]
  refine tkn 27 (.bool true) rfl (by kernel_rfl) (fun _ _ _ h => h) (yieldsIf_move _ rfl rfl rfl) hHeld ?_
  simp only [ly, Act.put]
  refine tkn 28 (.int .i64 1101) rfl (by kernel_rfl) (fun _ _ _ h => h) (.inl ⟨by kernel_rfl, fun w _ => by go_simp⟩) hHeld ?_
  simp only [ly, Act.put]
  refine wpAnyH_ready (rs := [29]) (by kernel_rfl) (by simp) (AllReadyH.cons rfl (fun K hK => ?_) AllReadyH.nil)
  have hK' := hid hK
  clear hK
  rw [if_pos (by kernel_rfl)]
  simp only [ly1, ly2, ly3]
  go_simp
  refine (errNum_any _ _).mono ?_
  rintro e w' ⟨rfl, rfl⟩
  refine hK'.out _ _ (by exact ⟨hA11.out, hX11.out⟩) (fun hHeld => ?_)
  clear hK' K
  refine tkn 30 (.bool true) rfl (by kernel_rfl) (fun _ _ _ h => h) (.inl ⟨by kernel_rfl, fun w _ => by go_simp⟩) hHeld ?_
  simp only [ly, Act.put]
  refine tkn 31 (.bool true) rfl (by kernel_rfl) (fun _ _ _ h => h) (yieldsIf_pick _ _ _ rfl rfl rfl rfl) hHeld ?_
  simp only [ly, Act.put]
  refine tkn 32 (.bool true) rfl (by kernel_rfl) (fun _ _ _ h => h) (yieldsIf_move _ rfl rfl rfl) hHeld ?_
  simp only [ly, Act.put]
  refine tkn 33 (.int .i64 1100) rfl (by kernel_rfl) (fun _ _ _ h => h) (.inl ⟨by kernel_rfl, fun w _ => by go_simp⟩) hHeld ?_
  simp only [ly, Act.put]
  refine wpAnyH_ready (rs := [34]) (by kernel_rfl) (by simp) (AllReadyH.cons rfl (fun K hK => ?_) AllReadyH.nil)
  have hK' := hid hK
  clear hK
  rw [if_pos (by kernel_rfl)]
  simp only [ly1, ly2, ly3]
  go_simp
  refine (errNum_any _ _).mono ?_
  rintro e w' ⟨rfl, rfl⟩
  refine hK'.out _ _ (by exact ⟨hA11.out, hX11.out⟩) (fun hHeld => ?_)
  clear hK' K
  refine tkn 35 (.bool true) rfl (by kernel_rfl) (fun _ _ _ h => h) (.inl ⟨by kernel_rfl, fun w _ => by go_simp⟩) hHeld ?_
  simp only [ly, Act.put]
  refine tkn 36 (.bool true) rfl (by kernel_rfl) (fun _ _ _ h => h) (yieldsIf_pick _ _ _ rfl rfl rfl rfl) hHeld ?_
  simp only [ly, Act.put]
  refine tkn 37 (.bool true) rfl (by kernel_rfl) (fun _ _ _ h => h) (yieldsIf_move _ rfl rfl rfl) hHeld ?_
  simp only [ly, Act.put]
  refine tkn 38 (.int .i64 0) rfl (by kernel_rfl) (fun _ _ _ h => h) (.inl ⟨by kernel_rfl, fun w _ => by go_simp⟩) hHeld ?_
  simp only [ly, Act.put]
  refine wpAnyH_ready (rs := [39]) (by kernel_rfl) (by simp) (AllReadyH.cons rfl (fun K hK => ?_) AllReadyH.nil)
  have hK' := hid hK
  clear hK
  rw [if_pos (by kernel_rfl)]
  simp only [ly1, ly2, ly3]
  go_simp
  refine (errNum_any _ _).mono ?_
  rintro e w' ⟨rfl, rfl⟩
  refine hK'.out _ _ (by exact ⟨hA11.out, hX11.out⟩) (fun hHeld => ?_)
  clear hK' K
  refine tkn 40 (.bool true) rfl (by kernel_rfl) (fun _ _ _ h => h) (.inl ⟨by kernel_rfl, fun w _ => by go_simp⟩) hHeld ?_
  simp only [ly, Act.put]
  refine tkn 41 (.bool true) rfl (by kernel_rfl) (fun _ _ _ h => h) (yieldsIf_pick _ _ _ rfl rfl rfl rfl) hHeld ?_
  simp only [ly, Act.put]
  refine tkn 42 (.bool true) rfl (by kernel_rfl) (fun _ _ _ h => h) (yieldsIf_move _ rfl rfl rfl) hHeld ?_
  simp only [ly, Act.put]
  refine tkn 43 (.pointer (some ⟨w.heap.size + 1, 0, none⟩)) rfl (by kernel_rfl) (fun _ _ _ h => h) (.inl ⟨by kernel_rfl, fun w _ => by go_simp⟩) hHeld ?_
  simp only [ly, Act.put]
  refine wpAnyH_ready (rs := [44]) (by kernel_rfl) (by simp) (AllReadyH.cons rfl (fun K hK => ?_) AllReadyH.nil)
  have hK' := hid hK
  clear hK
  rw [if_pos (by kernel_rfl)]
  simp only [ly1, ly2, ly3]
  go_simp
  refine (hLn.out _ _ hA11.out).mono ?_
  rintro e w' ⟨rfl, hw⟩
  obtain rfl := hw.symm
  clear hw
  refine hK'.out _ _ (by exact ⟨hA11.out, hX11.out⟩) (fun hHeld => ?_)
  clear hK' K
  refine tkn 45 (.bool true) rfl (by kernel_rfl) (fun _ _ _ h => h) (.inl ⟨by kernel_rfl, fun w _ => by have hml : ((List.length mAB : Nat) : Int) = 1 := rfl; go_simp⟩) hHeld ?_
  simp only [ly, Act.put]
  refine tkn 46 (.bool true) rfl (by kernel_rfl) (fun _ _ _ h => h) (yieldsIf_pick _ _ _ rfl rfl rfl rfl) hHeld ?_
  simp only [ly, Act.put]
  refine tkn 47 (.bool true) rfl (by kernel_rfl) (fun _ _ _ h => h) (yieldsIf_assign _ rfl rfl rfl) hHeld ?_
  simp only [ly, Act.put]
  refine wpAnyH_done (by kernel_rfl) ?_ _
  go_wp2_with fail
  go_ret
  exact ⟨rfl, hB11.out⟩

end Go.Proofs.Ytpjfhbmegabafaa
