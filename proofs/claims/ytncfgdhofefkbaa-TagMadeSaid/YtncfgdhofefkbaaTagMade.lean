/- The statement TagMade: its walk. -/
import Derived.Test.YtncfgdhofefkbaaTagForms
namespace Go.Proofs.Ytncfgdhofefkbaa
open Go.RowKit
open Go.Lib (strCells)
attribute [local irreducible] Sha.compress Sha.blocks Sha.sha Sha.pad

/-- The longest of texts. -/
def maxS (xs : List ByteArray) : Nat := xs.foldl (fun m x => max m x.size) 0

theorem maxS_next {xs : List ByteArray} {k : Nat} {x : ByteArray} (h : xs[k]? = some x) : maxS (xs.take (k + 1)) = max (maxS (xs.take k)) x.size := by
  unfold maxS
  rw [take_next h, List.foldl_append]
  rfl

theorem maxS_from (xs : List ByteArray) : ∀ a, a ≤ xs.foldl (fun m x => max m x.size) a ∧ ∀ x ∈ xs, x.size ≤ xs.foldl (fun m x => max m x.size) a := by
  induction xs with
  | nil => exact fun a => ⟨Nat.le_refl _, fun x hx => by cases hx⟩
  | cons y ys ih =>
    intro a
    obtain ⟨h1, h2⟩ := ih (max a y.size)
    refine ⟨Nat.le_trans (Nat.le_max_left _ _) h1, fun x hx => ?_⟩
    rcases List.mem_cons.1 hx with rfl | hx
    · exact Nat.le_trans (Nat.le_max_right _ _) h1
    · exact h2 x hx

theorem maxS_of {xs : List ByteArray} {x : ByteArray} (h : x ∈ xs) : x.size ≤ maxS xs := (maxS_from xs 0).2 x h

theorem totS_of (xs : List ByteArray) (b : Nat) (h : ∀ x ∈ xs, x.size ≤ b) : totS xs ≤ xs.length * b := by
  induction xs with
  | nil => exact Nat.zero_le _
  | cons y ys ih =>
    have h1 := h y (List.mem_cons_self ..)
    have h2 := ih fun x hx => h x (List.mem_cons_of_mem _ hx)
    simp only [totS, List.length_cons, Nat.succ_mul]
    omega

theorem good_ans (K : Nat) (xs : List ByteArray) (hK : K ≤ 4) (ht : totS xs ≤ 65536) : tagAns (K : Int) xs = (hashV (tagL K xs), 0) := by
  unfold tagAns tagMay
  rw [if_pos]
  · rfl
  · rw [decide_eq_true_eq]
    omega

set_option maxRecDepth 100000 in
set_option maxHeartbeats 2000000 in
theorem TagMade_law {w : World} (t : Int) (_ : (Lit.int .i64 t).wf = true) (A : Option Addr) (n c : Nat) (xs : List ByteArray) (hx : TextsIn w A n c xs) :
    Calls Try.prog 9 #[.int .i64 t, .slice A n c] w fun e w' => e = .returned (.bool true) ∧ Below w.heap.size w w' := by
  obtain ⟨hX, hnc, hn16, -, hsm⟩ := hx
  have hn : n ≤ 10000000000000 := by omega
  have hX' := hid hX
  have hsm' := hid hsm
  have hlen := hid hX.len
  obtain ⟨K, hk1, hkl⟩ : ∃ K : Nat, (IntKind.u64.wrap t).tmod 5 = (K : Int) ∧ K ≤ 4 := by
    have e : IntKind.u64.wrap t = t % 18446744073709551616 := rfl
    rw [e, Int.tmod_eq_emod_of_nonneg (by omega)]
    exact ⟨(t % 18446744073709551616 % 5).toNat, by omega, by omega⟩
  have hk2 : wrap64 (K : Int) = (K : Int) := IntWalk.wrap64_in _ (by omega)
  have hk3 := IntWalk.i64_in (K : Int) (by omega)
  have hkm : (K : Int) % 256 = (K : Int) := by omega
  have hcv := fun w : World => row_text (w.alloc (.cells #[.int .u8 (K : Int)] 5)) w.heap.size 1 (oneB K) rfl (by
    have h := Holds.new w 5 #[.int .u8 (K : Int)]
    have e : strCells (oneB K) = [.int .u8 (K : Int)] := by
      rw [← byte_small K (by omega)]
      rfl
    rw [e]
    exact h)
  clear hX hsm
  go_enter Try.func9, Try.ntmps9
  go_wp2_with fail
  refine (awake2_any _).mono ?_
  rintro e W1 ⟨rfl, hb1⟩
  have hb2 := hid (hb1.alloc hb1.size (.cells #[.int .u8 (K : Int)] 5))
  clear hb1
  go_wp2_with fail
  clear hcv hk1 hk2 hk3 hkm
  go_loopw [6, 7, 8] (fun s sz i wr => ∃ (j : Nat) (S : ByteArray), j ≤ n ∧ j ≤ 30 ∧ i = .int .i64 (j : Int) ∧ s = .string S ∧ S.data.toList = tagL K (xs.take j) ∧ sz = .int .i64 (maxS (xs.take j) : Int) ∧ S.size ≤ 1 + j * 140737488351240 ∧ maxS (xs.take j) ≤ 140737488351232 ∧ Below w.heap.size w wr) (fun _ _ i _ => n - (intOf i).toNat)
  case atStart => exact ⟨0, oneB K, Nat.zero_le _, by omega, rfl, rfl, rfl, rfl, Nat.le_refl _, Nat.zero_le _, hb2.out⟩
  case round =>
    obtain ⟨j, S, hj, hj30, rfl, rfl, hS, rfl, hSz, hmx, hB⟩ := hrel
    by_cases hlt : j < n ∧ j < 30
    · obtain ⟨hlt, hlt30⟩ := hlt
      obtain ⟨p, rfl, hpb, x, hxm, hx, hcell0⟩ := hX'.out.get hlt
      have hpb' : (p.add j).block < w.heap.size := by rw [add_block]; exact hpb
      have hxs := hsm'.out x hxm
      have hcellB : ∀ w', Below w.heap.size w w' → Below w.heap.size w w' ∧ w'.cell? (p.add j) = some (.string x) := fun w' h => ⟨h, (h.cell hpb').trans hcell0⟩
      have hcB' := hid hcellB
      have hcell := (hcellB wr hB).2
      have hB' := hid hB
      have hT1 := tagL_next (t := K) hx
      rw [← hS] at hT1
      have hT1' := hid hT1
      have hm1 := hid (maxS_next hx)
      have l1 : (j : Int) < (n : Int) := by omega
      have l2 : (j : Int) < 30 := by omega
      have hbz := be_size 4 x.size
      have hbe := hid (Be_any (x.size : Int) 4 4 rfl (by omega) x.size rfl (by omega))
      obtain ⟨E, hE⟩ : ∃ E, be 4 x.size = E := ⟨_, rfl⟩
      have hE' := hid hE
      rw [hE] at hbz hbe
      have hab1 : S.size + 4 ≤ 9223372036854775807 := by omega
      have hn1 : ¬ 9223372036854775807 < S.size + 4 := by omega
      have hn2 : ¬ 9223372036854775803 < S.size := by omega
      have hn3 : ¬ 9223372036854775807 < S.size + 4 + x.size := by omega
      have hab2 : S.size + 4 + x.size ≤ 9223372036854775807 := by omega
      generalize hmm : maxS (xs.take j) = m at *
      have hmm' := hid hmm
      obtain ⟨q, hq, hq2⟩ : ∃ q : Nat, max (m : Int) (x.size : Int) = (q : Int) ∧ q = max m x.size := ⟨max m x.size, by omega, rfl⟩
      have hq2' := hid hq2
      clear hcellB hB hT1 hS hx hE hcell0 hmm hq2
      go_wp2_with fail
      go_region_held3 (fun w' => Below w.heap.size w w' ∧ w'.cell? (p.add j) = some (.string x)) (first | assumption | exact hcB'.out _ hB'.out.drew | exact hcB'.out _ (below_up (by assumption) (And.left (by assumption))))
        (first
          | (go_at_call 24; refine (hbe.out _).mono ?_; rintro e w' ⟨rfl, hb⟩))
      rename_i hHeld
      have hq6 := hid hHeld.1
      have hcell2 := hHeld.2
      clear hHeld hb hcell
      go_wp2_with fail
      go_roundw
      case rel =>
        refine ⟨j + 1, S ++ E ++ x, by omega, by omega, by go_num, rfl, ?_, ?_, ?_, ?_, hq6.out⟩
        · rw [hT1'.out, ← hE'.out]
          simp only [ByteArray.data_append, Array.toList_append]
          rfl
        · rw [hm1.out, hq2'.out]
        · rw [ByteArray.size_append, ByteArray.size_append]
          omega
        · rw [hm1.out]
          omega
      case measure => simp [intOf]; omega
    · have hB' := hid hB
      obtain ⟨m, hm⟩ : ∃ m, j = m := ⟨_, rfl⟩
      have hjm : min (n : Int) 30 = (j : Int) := by omega
      have hjn : (j : Int) ≤ (n : Int) := by omega
      have hjc : (j : Int) ≤ (c : Int) := by omega
      have hT : Texts w w.heap.size A j (xs.take j) := by
        have h := hX'.out
        have e : n = j + (n - j) := by omega
        rw [e, ← List.take_append_drop j xs] at h
        exact h.front (by rw [List.length_take, hlen.out]; omega)
      have hSl := data_length S
      have hT' := hid hT
      clear hB hm m
      by_cases hbig : 2000 < maxS (xs.take j)
      · have hbig' : (2000 : Int) < (maxS (xs.take j) : Int) := by omega
        by_cases hn2 : j < n
        · obtain rfl : j = 30 := by omega
          go_wp2
          go_ret
          exact ⟨rfl, hB'.out⟩
        · go_wp2
          go_ret
          exact ⟨rfl, hB'.out⟩
      · have hbig' : ¬ (2000 : Int) < (maxS (xs.take j) : Int) := by omega
        have htot : totS (xs.take j) ≤ 65536 := by
          have h1 := totS_of (xs.take j) 2000 fun x hx => Nat.le_trans (maxS_of hx) (by omega)
          have h2 : (xs.take j).length ≤ 30 := by rw [List.length_take]; omega
          have h3 : (xs.take j).length * 2000 ≤ 30 * 2000 := Nat.mul_le_mul_right _ h2
          omega
        have hans := hid (good_ans K (xs.take j) hkl htot)
        have hsmt : ∀ x ∈ xs.take j, x.size ≤ 140737488351232 := fun x hx => hsm'.out x (List.mem_of_mem_take hx)
        have hsum := tagSum_any (K : Int) A j c (xs.take j) wr ((hT'.out.below hB'.out).more hB'.out.size) (by omega) hsmt
        rw [hans.out] at hsum
        rw [← hS] at hsum
        have hsum' := hid hsum
        clear hsum hans hsmt
        have hC := hid (hash_cells (Sha.sha S.data.toList) (sha_length _))
        have heq : ∀ W, (binOp .eql 28 (.agg (byteCells (Sha.sha S.data.toList)).toArray) (hashV S.data.toList)).run Try.prog W = .ok (.bool true) W := fun W => hash_same S.data.toList W
        have hgd : ∀ op x y W, (eqGuard op 28 x y (.agg (byteCells (Sha.sha S.data.toList)).toArray) (hashV S.data.toList)).run Try.prog W = .ok () W := fun op x y W => hash_guard op x y S.data.toList S.data.toList W
        have hsS := hid (fun w => sum_any S w (by omega))
        have hvv : hashV S.data.toList = .agg (byteCells (Sha.sha S.data.toList)).toArray := rfl
        rw [hvv] at hsum' heq hgd hsS
        generalize byteCells (Sha.sha S.data.toList) = cs at *
        clear hS hvv
        by_cases hn2 : j < n
        · obtain rfl : j = 30 := by omega
          go_wp2_with fail
          refine hsum'.out.mono ?_
          rintro e W2 ⟨rfl, hb3⟩
          have hb3' := hid (below_up hb3 hB'.out)
          clear hb3
          rename_i hK1
          refine hK1 _ _ ?_
          clear hK1
          go_wp2_with (first
            | ((with_reducible refine at_slot (some 9) ?_); refine wpList_run rfl (.pointer (some ⟨W2.heap.size, 0, none⟩)) (W2.alloc (.cells z32 28)) (by kernel_rfl) ?_)
            | ((with_reducible refine at_slot none ?_); refine wpList_store_mid rfl 28 (.tmp 9) (.tmp 62) rfl W2.heap.size 0 cs.toArray rfl rfl (by exact hC.out.there W2) (by exact hC.out.size) (by exact hC.out.one) ?_; generalize hW3 : World.setCells _ _ _ _ = W3))
          obtain ⟨hH3, hb4⟩ := hC.out.new hW3
          have hb5 := hid (below_up hb4 hb3'.out)
          have hS3 : ∀ w', Below W3.heap.size W3 w' → Below W3.heap.size W3 w' ∧ w'.rangeAt W2.heap.size 0 cs := fun w' h => ⟨h, (hH3.below h hH3.lt).rangeAll⟩
          have hS3' := hid hS3
          have hu := Try.underlying28
          have hi := hC.out.size'
          have hcl := hC.out.len
          clear hW3 hb4 hH3 hS3
          go_region_held3 (fun w' => Below W3.heap.size W3 w' ∧ w'.rangeAt W2.heap.size 0 cs)
            (first | assumption | exact hS3'.out _ (Below.refl _ _).drew | exact hS3'.out _ (below_up (by assumption) (And.left (by assumption))))
            (first
              | (go_at_call 18; refine (errNum_any _ _).mono ?_; rintro e w' ⟨rfl, rfl⟩)
              | (go_at_call 15; refine (hsS.out _).mono ?_; rintro e w' ⟨rfl, hb⟩))
          rename_i hHeld
          go_wp2
          go_ret
          exact ⟨rfl, below_up hHeld.1 hb5.out⟩
        · go_wp2_with fail
          refine hsum'.out.mono ?_
          rintro e W2 ⟨rfl, hb3⟩
          have hb3' := hid (below_up hb3 hB'.out)
          clear hb3
          rename_i hK1
          refine hK1 _ _ ?_
          clear hK1
          go_wp2_with (first
            | ((with_reducible refine at_slot (some 9) ?_); refine wpList_run rfl (.pointer (some ⟨W2.heap.size, 0, none⟩)) (W2.alloc (.cells z32 28)) (by kernel_rfl) ?_)
            | ((with_reducible refine at_slot none ?_); refine wpList_store_mid rfl 28 (.tmp 9) (.tmp 62) rfl W2.heap.size 0 cs.toArray rfl rfl (by exact hC.out.there W2) (by exact hC.out.size) (by exact hC.out.one) ?_; generalize hW3 : World.setCells _ _ _ _ = W3))
          obtain ⟨hH3, hb4⟩ := hC.out.new hW3
          have hb5 := hid (below_up hb4 hb3'.out)
          have hS3 : ∀ w', Below W3.heap.size W3 w' → Below W3.heap.size W3 w' ∧ w'.rangeAt W2.heap.size 0 cs := fun w' h => ⟨h, (hH3.below h hH3.lt).rangeAll⟩
          have hS3' := hid hS3
          have hu := Try.underlying28
          have hi := hC.out.size'
          have hcl := hC.out.len
          clear hW3 hb4 hH3 hS3
          go_region_held3 (fun w' => Below W3.heap.size W3 w' ∧ w'.rangeAt W2.heap.size 0 cs)
            (first | assumption | exact hS3'.out _ (Below.refl _ _).drew | exact hS3'.out _ (below_up (by assumption) (And.left (by assumption))))
            (first
              | (go_at_call 18; refine (errNum_any _ _).mono ?_; rintro e w' ⟨rfl, rfl⟩)
              | (go_at_call 15; refine (hsS.out _).mono ?_; rintro e w' ⟨rfl, hb⟩))
          rename_i hHeld
          go_wp2
          go_ret
          exact ⟨rfl, below_up hHeld.1 hb5.out⟩

end Go.Proofs.Ytncfgdhofefkbaa
