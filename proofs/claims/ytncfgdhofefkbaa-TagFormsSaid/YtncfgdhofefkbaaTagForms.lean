/- The statement TagForms: its walk. -/
import Derived.Test.YtncfgdhofefkbaaAwake2
import Derived.Test.YtncfgdhofefkbaaShaTwins
namespace Go.Proofs.Ytncfgdhofefkbaa
open Go.RowKit
open Go.Lib (strCells)
attribute [local irreducible] Sha.compress Sha.blocks Sha.sha Sha.pad

/-- A list of texts that was just made. -/
theorem Texts.new (w : World) (xs : List ByteArray) (cs : Array Value) (h : cs.toList = strs xs) (n : Nat) (hn : xs.length = n) : Texts (w.alloc (.cells cs 9)) (w.alloc (.cells cs 9)).heap.size (some ⟨w.heap.size, 0, none⟩) n xs := by
  have := At.new w (strs xs) n 9 cs h (by rw [strs_length, hn])
  rw [World.size_alloc]
  exact this

theorem a_code (t : Int) : (tagAns t aS).2 = if 0 ≤ t ∧ t ≤ 4 then 0 else 200 := by
  unfold tagAns tagMay
  by_cases h : 0 ≤ t ∧ t ≤ 4
  · rw [if_pos h, if_pos]
    rw [decide_eq_true_eq]
    exact ⟨h.1, h.2, by decide⟩
  · rw [if_neg h, if_neg]
    rw [decide_eq_true_eq]
    exact fun h2 => h ⟨h2.1, h2.2.1⟩

theorem z_code (k : Nat) : (tagAns 3 [zeroS k, ⟨#[97, 98]⟩]).2 = if k + 2 ≤ 65536 then 0 else 200 := by
  unfold tagAns tagMay
  have e : totS [zeroS k, ⟨#[97, 98]⟩] = k + 2 := by
    unfold totS totS totS
    rw [zeroS_size]
    rfl
  rw [e]
  by_cases h : k + 2 ≤ 65536
  · rw [if_pos h, if_pos]
    rw [decide_eq_true_eq]
    exact ⟨by omega, by omega, h⟩
  · rw [if_neg h, if_neg]
    rw [decide_eq_true_eq]
    exact fun h2 => h h2.2.2

set_option maxRecDepth 100000 in
set_option maxHeartbeats 1000000 in
theorem TagForms_law {w : World} (t : Int) (_ : (Lit.int .i64 t).wf = true) (size : Int) (_ : (Lit.int .i64 size).wf = true) :
    Calls Try.prog 8 #[.int .i64 t, .int .i64 size] w fun e w' => e = .returned (.bool true) ∧ Below w.heap.size w w' := by
  have hand : 0 ≤ bits .and .i64 size 7 ∧ bits .and .i64 size 7 ≤ 7 := and_bd size 7 (by omega)
  obtain ⟨r, hr7, hr8⟩ : ∃ r : Nat, bits .and .i64 size 7 = (r : Int) ∧ r ≤ 7 := ⟨(bits .and .i64 size 7).toNat, by omega, by omega⟩
  have s1 := IntWalk.i64_in (65533 + (r : Int)) (by omega)
  have s2 := IntWalk.i64_in (65533 + (r : Int) - 2) (by omega)
  have hmk := make_run (65531 + r) (by omega) (65533 + (r : Int) - 2) (by omega)
  have hcv := fun w => zeros_run (65531 + r) (w.alloc (.cells (strCells (zeroS (65531 + r))).toArray 5)) w.heap.size (Holds.new w _ _)
  obtain ⟨cs1, hC1, htag1⟩ := tag_hash t aS
  obtain ⟨cs2, hC2, htag2⟩ := tag_hash 3 [zeroS (65531 + r), ⟨#[97, 98]⟩]
  have hcode1 := hid (a_code t)
  have hcode2 := hid (z_code (65531 + r))
  have hZs := hid (zeroS_size (65531 + r))
  generalize zeroS (65531 + r) = Z at *
  have hC1' := hid hC1
  have hC2' := hid hC2
  have htag1' := hid htag1
  have htag2' := hid htag2
  clear hand hC1 hC2 htag1 htag2
  go_enter Try.func8, Try.ntmps8
  go_wp2_with fail
  refine (awake2_any _).mono ?_
  rintro e W1 ⟨rfl, hb1⟩
  have hb1' := hid hb1
  clear hb1
  go_wp2_with fail
  have hb2 : Below W1.heap.size W1 (W1.alloc (.cells #[.string ⟨#[97]⟩] 9)) := (Below.refl _ _).alloc (Nat.le_refl _) _
  have hc1 := tagSum_any t (some ⟨W1.heap.size, 0, none⟩) 1 1 aS _ (Texts.new W1 aS #[.string ⟨#[97]⟩] rfl 1 rfl) (by omega) (by intro s hs; simp [aS] at hs; subst hs; decide)
  refine hc1.mono ?_
  rw [htag1'.out, hcode1.out]
  rintro e W2 ⟨rfl, hb3⟩
  have hb3' := hid (below_up hb3 (below_up hb2 hb1'.out))
  clear hc1 hb2 hb3
  rename_i hK1
  refine hK1 _ _ ?_
  clear hK1
  by_cases h0 : 0 ≤ t
  · by_cases h4 : t ≤ 4
    · rw [if_pos ⟨h0, h4⟩]
      by_cases h3 : r ≤ 3
      · have k3 : 65533 + (r : Int) ≤ 65536 := by omega
        go_wp2_with (first
          | ((with_reducible refine at_slot (some 5) ?_); refine wpList_run rfl (.pointer (some ⟨W2.heap.size, 0, none⟩)) (W2.alloc (.cells z32 28)) (by kernel_rfl) ?_)
          | ((with_reducible refine at_slot none ?_); refine wpList_store_mid rfl 28 (.tmp 5) (.tmp 17) rfl W2.heap.size 0 cs1.toArray rfl rfl (by exact hC1'.out.there W2) (by exact hC1'.out.size) (by exact hC1'.out.one) ?_; generalize hW3 : World.setCells _ _ _ _ = W3; have hN3 := hid (hC1'.out.new hW3); have hb4 := hid (below_up hN3.out.2 hb3'.out); clear hW3))
        rename_i hK2
        have hb5 : Below W3.heap.size W3 ((W3.alloc (.cells (strCells Z).toArray 5)).alloc (.cells #[.string Z, .string ⟨#[97, 98]⟩] 9)) := ((Below.refl _ _).alloc (Nat.le_refl _) _).alloc (by simp) _
        have hT5 := Texts.new (W3.alloc (.cells (strCells Z).toArray 5)) [Z, ⟨#[97, 98]⟩] #[.string Z, .string ⟨#[97, 98]⟩] rfl 2 rfl
        rw [World.size_alloc W3] at hT5
        have hc2 := tagSum_any 3 (some ⟨W3.heap.size + 1, 0, none⟩) 2 2 [Z, ⟨#[97, 98]⟩] _ hT5 (by omega) (by intro s hs; simp at hs; rcases hs with rfl | rfl <;> first | (rw [hZs.out]; omega) | decide)
        refine hc2.mono ?_
        rw [htag2'.out, hcode2.out]
        rintro e W4 ⟨rfl, hb6⟩
        have hb6' := hid (below_up hb6 (below_up hb5 hb4.out))
        clear hc2 hT5 hb5 hb6
        refine hK2 _ _ ?_
        clear hK2
        rw [if_pos (by omega)]
        go_wp2_with (first
          | ((with_reducible refine at_slot (some 9) ?_); refine wpList_run rfl (.pointer (some ⟨W4.heap.size, 0, none⟩)) (W4.alloc (.cells z32 28)) (by kernel_rfl) ?_)
          | ((with_reducible refine at_slot none ?_); refine wpList_store_mid rfl 28 (.tmp 9) (.tmp 35) rfl W4.heap.size 0 cs2.toArray rfl rfl (by exact hC2'.out.there W4) (by exact hC2'.out.size) (by exact hC2'.out.one) ?_; generalize hW5 : World.setCells _ _ _ _ = W5; have hN5 := hid (hC2'.out.new hW5); have hb7 := hid (below_up hN5.out.2 hb6'.out); clear hW5)
          | (go_at_call 18; refine (errNum_any _ _).mono ?_; rintro e w' ⟨rfl, rfl⟩))
        go_ret
        exact ⟨rfl, hb7.out⟩
      · have k3 : ¬ 65533 + (r : Int) ≤ 65536 := by omega
        have kd : decide (65533 + (r : Int) ≤ 65536) = false := decide_eq_false k3
        go_wp2_with (first
          | ((with_reducible refine at_slot (some 5) ?_); refine wpList_run rfl (.pointer (some ⟨W2.heap.size, 0, none⟩)) (W2.alloc (.cells z32 28)) (by kernel_rfl) ?_)
          | ((with_reducible refine at_slot none ?_); refine wpList_store_mid rfl 28 (.tmp 5) (.tmp 17) rfl W2.heap.size 0 cs1.toArray rfl rfl (by exact hC1'.out.there W2) (by exact hC1'.out.size) (by exact hC1'.out.one) ?_; generalize hW3 : World.setCells _ _ _ _ = W3; have hN3 := hid (hC1'.out.new hW3); have hb4 := hid (below_up hN3.out.2 hb3'.out); clear hW3))
        rename_i hK2
        have hb5 : Below W3.heap.size W3 ((W3.alloc (.cells (strCells Z).toArray 5)).alloc (.cells #[.string Z, .string ⟨#[97, 98]⟩] 9)) := ((Below.refl _ _).alloc (Nat.le_refl _) _).alloc (by simp) _
        have hT5 := Texts.new (W3.alloc (.cells (strCells Z).toArray 5)) [Z, ⟨#[97, 98]⟩] #[.string Z, .string ⟨#[97, 98]⟩] rfl 2 rfl
        rw [World.size_alloc W3] at hT5
        have hc2 := tagSum_any 3 (some ⟨W3.heap.size + 1, 0, none⟩) 2 2 [Z, ⟨#[97, 98]⟩] _ hT5 (by omega) (by intro s hs; simp at hs; rcases hs with rfl | rfl <;> first | (rw [hZs.out]; omega) | decide)
        refine hc2.mono ?_
        rw [htag2'.out, hcode2.out]
        rintro e W4 ⟨rfl, hb6⟩
        have hb6' := hid (below_up hb6 (below_up hb5 hb4.out))
        clear hc2 hT5 hb5 hb6
        refine hK2 _ _ ?_
        clear hK2
        rw [if_neg (by omega)]
        go_wp2_with (first
          | ((with_reducible refine at_slot (some 9) ?_); refine wpList_run rfl (.pointer (some ⟨W4.heap.size, 0, none⟩)) (W4.alloc (.cells z32 28)) (by kernel_rfl) ?_)
          | ((with_reducible refine at_slot none ?_); refine wpList_store_mid rfl 28 (.tmp 9) (.tmp 35) rfl W4.heap.size 0 cs2.toArray rfl rfl (by exact hC2'.out.there W4) (by exact hC2'.out.size) (by exact hC2'.out.one) ?_; generalize hW5 : World.setCells _ _ _ _ = W5; have hN5 := hid (hC2'.out.new hW5); have hb7 := hid (below_up hN5.out.2 hb6'.out); clear hW5)
          | (go_at_call 18; refine (errNum_any _ _).mono ?_; rintro e w' ⟨rfl, rfl⟩))
        go_ret
        exact ⟨rfl, hb7.out⟩
    · rw [if_neg (fun h => h4 h.2)]
      by_cases h3 : r ≤ 3
      · have k3 : 65533 + (r : Int) ≤ 65536 := by omega
        go_wp2_with (first
          | ((with_reducible refine at_slot (some 5) ?_); refine wpList_run rfl (.pointer (some ⟨W2.heap.size, 0, none⟩)) (W2.alloc (.cells z32 28)) (by kernel_rfl) ?_)
          | ((with_reducible refine at_slot none ?_); refine wpList_store_mid rfl 28 (.tmp 5) (.tmp 17) rfl W2.heap.size 0 cs1.toArray rfl rfl (by exact hC1'.out.there W2) (by exact hC1'.out.size) (by exact hC1'.out.one) ?_; generalize hW3 : World.setCells _ _ _ _ = W3; have hN3 := hid (hC1'.out.new hW3); have hb4 := hid (below_up hN3.out.2 hb3'.out); clear hW3))
        rename_i hK2
        have hb5 : Below W3.heap.size W3 ((W3.alloc (.cells (strCells Z).toArray 5)).alloc (.cells #[.string Z, .string ⟨#[97, 98]⟩] 9)) := ((Below.refl _ _).alloc (Nat.le_refl _) _).alloc (by simp) _
        have hT5 := Texts.new (W3.alloc (.cells (strCells Z).toArray 5)) [Z, ⟨#[97, 98]⟩] #[.string Z, .string ⟨#[97, 98]⟩] rfl 2 rfl
        rw [World.size_alloc W3] at hT5
        have hc2 := tagSum_any 3 (some ⟨W3.heap.size + 1, 0, none⟩) 2 2 [Z, ⟨#[97, 98]⟩] _ hT5 (by omega) (by intro s hs; simp at hs; rcases hs with rfl | rfl <;> first | (rw [hZs.out]; omega) | decide)
        refine hc2.mono ?_
        rw [htag2'.out, hcode2.out]
        rintro e W4 ⟨rfl, hb6⟩
        have hb6' := hid (below_up hb6 (below_up hb5 hb4.out))
        clear hc2 hT5 hb5 hb6
        refine hK2 _ _ ?_
        clear hK2
        rw [if_pos (by omega)]
        go_wp2_with (first
          | ((with_reducible refine at_slot (some 9) ?_); refine wpList_run rfl (.pointer (some ⟨W4.heap.size, 0, none⟩)) (W4.alloc (.cells z32 28)) (by kernel_rfl) ?_)
          | ((with_reducible refine at_slot none ?_); refine wpList_store_mid rfl 28 (.tmp 9) (.tmp 35) rfl W4.heap.size 0 cs2.toArray rfl rfl (by exact hC2'.out.there W4) (by exact hC2'.out.size) (by exact hC2'.out.one) ?_; generalize hW5 : World.setCells _ _ _ _ = W5; have hN5 := hid (hC2'.out.new hW5); have hb7 := hid (below_up hN5.out.2 hb6'.out); clear hW5)
          | (go_at_call 18; refine (errNum_any _ _).mono ?_; rintro e w' ⟨rfl, rfl⟩))
        go_ret
        exact ⟨rfl, hb7.out⟩
      · have k3 : ¬ 65533 + (r : Int) ≤ 65536 := by omega
        have kd : decide (65533 + (r : Int) ≤ 65536) = false := decide_eq_false k3
        go_wp2_with (first
          | ((with_reducible refine at_slot (some 5) ?_); refine wpList_run rfl (.pointer (some ⟨W2.heap.size, 0, none⟩)) (W2.alloc (.cells z32 28)) (by kernel_rfl) ?_)
          | ((with_reducible refine at_slot none ?_); refine wpList_store_mid rfl 28 (.tmp 5) (.tmp 17) rfl W2.heap.size 0 cs1.toArray rfl rfl (by exact hC1'.out.there W2) (by exact hC1'.out.size) (by exact hC1'.out.one) ?_; generalize hW3 : World.setCells _ _ _ _ = W3; have hN3 := hid (hC1'.out.new hW3); have hb4 := hid (below_up hN3.out.2 hb3'.out); clear hW3))
        rename_i hK2
        have hb5 : Below W3.heap.size W3 ((W3.alloc (.cells (strCells Z).toArray 5)).alloc (.cells #[.string Z, .string ⟨#[97, 98]⟩] 9)) := ((Below.refl _ _).alloc (Nat.le_refl _) _).alloc (by simp) _
        have hT5 := Texts.new (W3.alloc (.cells (strCells Z).toArray 5)) [Z, ⟨#[97, 98]⟩] #[.string Z, .string ⟨#[97, 98]⟩] rfl 2 rfl
        rw [World.size_alloc W3] at hT5
        have hc2 := tagSum_any 3 (some ⟨W3.heap.size + 1, 0, none⟩) 2 2 [Z, ⟨#[97, 98]⟩] _ hT5 (by omega) (by intro s hs; simp at hs; rcases hs with rfl | rfl <;> first | (rw [hZs.out]; omega) | decide)
        refine hc2.mono ?_
        rw [htag2'.out, hcode2.out]
        rintro e W4 ⟨rfl, hb6⟩
        have hb6' := hid (below_up hb6 (below_up hb5 hb4.out))
        clear hc2 hT5 hb5 hb6
        refine hK2 _ _ ?_
        clear hK2
        rw [if_neg (by omega)]
        go_wp2_with (first
          | ((with_reducible refine at_slot (some 9) ?_); refine wpList_run rfl (.pointer (some ⟨W4.heap.size, 0, none⟩)) (W4.alloc (.cells z32 28)) (by kernel_rfl) ?_)
          | ((with_reducible refine at_slot none ?_); refine wpList_store_mid rfl 28 (.tmp 9) (.tmp 35) rfl W4.heap.size 0 cs2.toArray rfl rfl (by exact hC2'.out.there W4) (by exact hC2'.out.size) (by exact hC2'.out.one) ?_; generalize hW5 : World.setCells _ _ _ _ = W5; have hN5 := hid (hC2'.out.new hW5); have hb7 := hid (below_up hN5.out.2 hb6'.out); clear hW5)
          | (go_at_call 18; refine (errNum_any _ _).mono ?_; rintro e w' ⟨rfl, rfl⟩))
        go_ret
        exact ⟨rfl, hb7.out⟩
  · rw [if_neg (fun h => h0 h.1)]
    by_cases h3 : r ≤ 3
    · have k3 : 65533 + (r : Int) ≤ 65536 := by omega
      go_wp2_with (first
        | ((with_reducible refine at_slot (some 5) ?_); refine wpList_run rfl (.pointer (some ⟨W2.heap.size, 0, none⟩)) (W2.alloc (.cells z32 28)) (by kernel_rfl) ?_)
        | ((with_reducible refine at_slot none ?_); refine wpList_store_mid rfl 28 (.tmp 5) (.tmp 17) rfl W2.heap.size 0 cs1.toArray rfl rfl (by exact hC1'.out.there W2) (by exact hC1'.out.size) (by exact hC1'.out.one) ?_; generalize hW3 : World.setCells _ _ _ _ = W3; have hN3 := hid (hC1'.out.new hW3); have hb4 := hid (below_up hN3.out.2 hb3'.out); clear hW3))
      rename_i hK2
      have hb5 : Below W3.heap.size W3 ((W3.alloc (.cells (strCells Z).toArray 5)).alloc (.cells #[.string Z, .string ⟨#[97, 98]⟩] 9)) := ((Below.refl _ _).alloc (Nat.le_refl _) _).alloc (by simp) _
      have hT5 := Texts.new (W3.alloc (.cells (strCells Z).toArray 5)) [Z, ⟨#[97, 98]⟩] #[.string Z, .string ⟨#[97, 98]⟩] rfl 2 rfl
      rw [World.size_alloc W3] at hT5
      have hc2 := tagSum_any 3 (some ⟨W3.heap.size + 1, 0, none⟩) 2 2 [Z, ⟨#[97, 98]⟩] _ hT5 (by omega) (by intro s hs; simp at hs; rcases hs with rfl | rfl <;> first | (rw [hZs.out]; omega) | decide)
      refine hc2.mono ?_
      rw [htag2'.out, hcode2.out]
      rintro e W4 ⟨rfl, hb6⟩
      have hb6' := hid (below_up hb6 (below_up hb5 hb4.out))
      clear hc2 hT5 hb5 hb6
      refine hK2 _ _ ?_
      clear hK2
      rw [if_pos (by omega)]
      go_wp2_with (first
        | ((with_reducible refine at_slot (some 9) ?_); refine wpList_run rfl (.pointer (some ⟨W4.heap.size, 0, none⟩)) (W4.alloc (.cells z32 28)) (by kernel_rfl) ?_)
        | ((with_reducible refine at_slot none ?_); refine wpList_store_mid rfl 28 (.tmp 9) (.tmp 35) rfl W4.heap.size 0 cs2.toArray rfl rfl (by exact hC2'.out.there W4) (by exact hC2'.out.size) (by exact hC2'.out.one) ?_; generalize hW5 : World.setCells _ _ _ _ = W5; have hN5 := hid (hC2'.out.new hW5); have hb7 := hid (below_up hN5.out.2 hb6'.out); clear hW5)
        | (go_at_call 18; refine (errNum_any _ _).mono ?_; rintro e w' ⟨rfl, rfl⟩))
      go_ret
      exact ⟨rfl, hb7.out⟩
    · have k3 : ¬ 65533 + (r : Int) ≤ 65536 := by omega
      have kd : decide (65533 + (r : Int) ≤ 65536) = false := decide_eq_false k3
      go_wp2_with (first
        | ((with_reducible refine at_slot (some 5) ?_); refine wpList_run rfl (.pointer (some ⟨W2.heap.size, 0, none⟩)) (W2.alloc (.cells z32 28)) (by kernel_rfl) ?_)
        | ((with_reducible refine at_slot none ?_); refine wpList_store_mid rfl 28 (.tmp 5) (.tmp 17) rfl W2.heap.size 0 cs1.toArray rfl rfl (by exact hC1'.out.there W2) (by exact hC1'.out.size) (by exact hC1'.out.one) ?_; generalize hW3 : World.setCells _ _ _ _ = W3; have hN3 := hid (hC1'.out.new hW3); have hb4 := hid (below_up hN3.out.2 hb3'.out); clear hW3))
      rename_i hK2
      have hb5 : Below W3.heap.size W3 ((W3.alloc (.cells (strCells Z).toArray 5)).alloc (.cells #[.string Z, .string ⟨#[97, 98]⟩] 9)) := ((Below.refl _ _).alloc (Nat.le_refl _) _).alloc (by simp) _
      have hT5 := Texts.new (W3.alloc (.cells (strCells Z).toArray 5)) [Z, ⟨#[97, 98]⟩] #[.string Z, .string ⟨#[97, 98]⟩] rfl 2 rfl
      rw [World.size_alloc W3] at hT5
      have hc2 := tagSum_any 3 (some ⟨W3.heap.size + 1, 0, none⟩) 2 2 [Z, ⟨#[97, 98]⟩] _ hT5 (by omega) (by intro s hs; simp at hs; rcases hs with rfl | rfl <;> first | (rw [hZs.out]; omega) | decide)
      refine hc2.mono ?_
      rw [htag2'.out, hcode2.out]
      rintro e W4 ⟨rfl, hb6⟩
      have hb6' := hid (below_up hb6 (below_up hb5 hb4.out))
      clear hc2 hT5 hb5 hb6
      refine hK2 _ _ ?_
      clear hK2
      rw [if_neg (by omega)]
      go_wp2_with (first
        | ((with_reducible refine at_slot (some 9) ?_); refine wpList_run rfl (.pointer (some ⟨W4.heap.size, 0, none⟩)) (W4.alloc (.cells z32 28)) (by kernel_rfl) ?_)
        | ((with_reducible refine at_slot none ?_); refine wpList_store_mid rfl 28 (.tmp 9) (.tmp 35) rfl W4.heap.size 0 cs2.toArray rfl rfl (by exact hC2'.out.there W4) (by exact hC2'.out.size) (by exact hC2'.out.one) ?_; generalize hW5 : World.setCells _ _ _ _ = W5; have hN5 := hid (hC2'.out.new hW5); have hb7 := hid (below_up hN5.out.2 hb6'.out); clear hW5)
        | (go_at_call 18; refine (errNum_any _ _).mono ?_; rintro e w' ⟨rfl, rfl⟩))
      go_ret
      exact ⟨rfl, hb7.out⟩

end Go.Proofs.Ytncfgdhofefkbaa
