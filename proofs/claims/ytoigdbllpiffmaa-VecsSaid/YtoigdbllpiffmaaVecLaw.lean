/- The statements of layer 18: their walks. -/
import Derived.Test.YtoigdbllpiffmaaVec
import Derived.Test.YtoigdbllpiffmaaPlain
namespace Go.Proofs.Ytoigdbllpiffmaa
open Go.RowKit

theorem small_maxLen {n : Nat} (h : n ≤ 1000000) : n ≤ maxLen := by unfold maxLen; omega

set_option maxHeartbeats 1000000 in
theorem awake18_any (w : World) : Calls Try.prog 28 #[] w fun e w' => e = .returned (.bool true) ∧ Below w.heap.size w w' := by
  go_enter Try.func28, Try.ntmps28
  go_wp2_with fail
  generalize hW : ((w.alloc _).alloc _).alloc _ = W
  have ha : Ints W W.heap.size (some ⟨w.heap.size, 0, none⟩) 2 [1, 2] := Ints.of_block (e := 3) (cs := #[.int .i64 1, .int .i64 2]) _ (hW ▸ heap_up _ _ _ _ (heap_up _ _ _ _ (heap_at _ _ _ rfl))) rfl rfl
  have hb : Ints W W.heap.size (some ⟨w.heap.size + 1, 0, none⟩) 2 [2, 1] := Ints.of_block (e := 3) (cs := #[.int .i64 2, .int .i64 1]) _ (hW ▸ heap_up _ _ _ _ (heap_at _ _ _ (by simp))) rfl rfl
  have hc : Ints W W.heap.size (some ⟨w.heap.size + 1 + 1, 0, none⟩) 2 [1, 3] := Ints.of_block (e := 3) (cs := #[.int .i64 1, .int .i64 3]) _ (hW ▸ heap_at _ _ _ (by simp)) rfl rfl
  have hB : Below w.heap.size w W := by rw [← hW]; exact (((Below.refl _ _).alloc (by first | (simp; done) | (simp; omega) | omega) _).alloc (by first | (simp; done) | (simp; omega) | omega) _).alloc (by first | (simp; done) | (simp; omega) | omega) _
  clear hW
  refine (Below_any _ _ _ [1, 2] _ _ _ [1, 3] true 0 (by decide) _ _ ha (by decide) hc (by decide)).mono ?_
  rintro e w' ⟨rfl, m1, rfl⟩
  go_wp2_with fail
  refine (Apart_any _ _ _ [1, 2] _ _ _ [2, 1] true 0 (by decide) _ _ (ha.drewN _) (by decide) (hb.drewN _) (by decide)).mono ?_
  rintro e w' ⟨rfl, m2, rfl⟩
  go_wp2_with fail
  refine (Join_any _ _ _ [1, 2] _ _ _ [2, 1] [2, 2] 0 (by decide) _ (ha.drewN _) (by decide) (hb.drewN _) (by decide)).mono ?_
  rintro e W3 ⟨A3, n3, c3, rfl, hj, hn3, hb3⟩
  have hB3 : Below w.heap.size w W3 := (below_drewN hB _).trans (hb3.mono hB.size)
  have ha3 : Ints W3 W3.heap.size (some ⟨w.heap.size, 0, none⟩) 2 [1, 2] := ((ha.drewN _).below hb3).more hb3.size
  clear ha hb hc hb3 hB
  go_wp2_with fail
  generalize hW : W3.alloc _ = W4
  have hd : Ints W4 W4.heap.size (some ⟨W3.heap.size, 0, none⟩) 1 [1] := Ints.of_block (e := 3) (cs := #[.int .i64 1]) _ (hW ▸ heap_at _ _ _ rfl) rfl rfl
  have hB4 : Below w.heap.size w W4 := by rw [← hW]; exact hB3.alloc hB3.size _
  have h34 : Below W3.heap.size W3 W4 := by rw [← hW]; exact (Below.refl _ _).alloc (by first | (simp; done) | (simp; omega) | omega) _
  have ha4 := (ha3.below h34).more h34.size
  have hj4 := (hj.below h34).more h34.size
  clear hW ha3 hj hB3 h34
  refine (Below_any _ _ _ [1, 2] _ _ _ [1] false 1800 (by decide) _ _ ha4 (by decide) hd (by decide)).mono ?_
  rintro e W5 ⟨rfl, m3, rfl⟩
  go_wp2_with (go_at_call 23; refine (Num_any _ _).mono ?_; rintro e w' ⟨rfl, rfl⟩)
  generalize hW : (W4.drewN m3).alloc _ = W6
  have he : Ints W6 W6.heap.size (some ⟨W4.heap.size, 0, none⟩) 2 [2, 2] := Ints.of_block (e := 3) (cs := #[.int .i64 2, .int .i64 2]) _ (hW ▸ heap_at _ _ _ rfl) rfl rfl
  have h46 : Below W4.heap.size W4 W6 := by rw [← hW]; exact (below_drewN (Below.refl _ _) _).alloc (by first | (simp; done) | (simp; omega) | omega) _
  have hB6 : Below w.heap.size w W6 := hB4.trans (h46.mono hB4.size)
  have ha6 := (ha4.below h46).more h46.size
  have hj6 := (hj4.below h46).more h46.size
  clear hW ha4 hj4 hB4 h46
  refine (SameInts_any _ _ _ [2, 2] _ _ _ [2, 2] true (by decide) _ _ hj6 (small_maxLen (by omega)) he (by decide)).mono ?_
  rintro e W5 ⟨rfl, m4, rfl⟩
  go_wp2_with (go_at_call 23; refine (Num_any _ _).mono ?_; rintro e w' ⟨rfl, rfl⟩)
  refine (may_any _ _ _ [1, 2] _ _ (ha6.drewN _) (by decide)).mono ?_
  rintro e W5 ⟨he, rfl⟩
  obtain rfl : e = Ending.returned (.bool true) := he
  go_wp2_with fail
  refine (may_any none 0 0 [] 0 _ (Ints.none_ _ _ _) (by decide)).mono ?_
  rintro e W5 ⟨he, rfl⟩
  obtain rfl : e = Ending.returned (.bool false) := he
  go_wp2
  go_ret
  exact ⟨rfl, below_drewN hB6 _⟩

/-- The number from which it follows what is wrong. -/
theorem and63 (x : Int) : 0 ≤ bits .and .i64 x 63 ∧ bits .and .i64 x 63 ≤ 63 := by
  have e : bits .and .i64 x 63 = (((BitVec.ofInt 64 x &&& 63#64).toNat : Nat) : Int) := by
    show IntKind.i64.wrap ((BitVec.ofInt 64 x &&& BitVec.ofInt 64 63).toNat : Int) = _
    have h63 : BitVec.ofInt 64 63 = 63#64 := by decide
    rw [h63, IntKind.wrap_i64]
    have : (BitVec.ofInt 64 x &&& 63#64).toNat ≤ 63 := by
      rw [BitVec.toNat_and]
      exact Nat.and_le_right
    omega
  rw [e, BitVec.toNat_and]
  have : (BitVec.ofInt 64 x).toNat &&& (63#64 : BitVec 64).toNat ≤ 63 := Nat.and_le_right
  omega

theorem pairMay_no {xs ys : List Int} (h : vecMay xs = false ∨ vecMay ys = false ∨ xs.length ≠ ys.length) : pairMay xs ys = false := by
  unfold pairMay
  rcases h with h | h | h
  · simp [h]
  · simp [h]
  · simp [h]

theorem i64s_zeros (n : Nat) : List.replicate n (Value.int .i64 0) = i64s (List.replicate n 0) := by simp [i64s]

set_option maxRecDepth 100000 in
set_option maxHeartbeats 2000000 in
theorem VecForms_law (a0 : Int) (_w0 : (Lit.int .i64 a0).wf = true) (a1 : Int) (_w1 : (Lit.int .i64 a1).wf = true) (w : World) :
    Calls Try.prog 5 #[.int .i64 a0, .int .i64 a1] w fun e w' => e = .returned (.bool true) ∧ Below w.heap.size w w' := by
  obtain ⟨i0, hi, hz0, hz1, hz2⟩ := info_parts Try.infoInt
  have hd := and63 a1
  have hd1 := hd.1
  have hd2 := hd.2
  clear hd
  go_enter Try.func5, Try.ntmps5
  go_wp2_with fail
  refine (awake18_any _).mono ?_
  rintro e W1 ⟨rfl, hB1⟩
  go_wp2_with (first
    | (at_builtin; (refine wpList_push rfl (.tmp 48) (.tmp 49) 22 3 rfl W1.heap.size i0 (.int .i64 0) 8 Try.underlying22 hi hz0 hz1 hz2 rfl (by decide) (some ⟨W1.heap.size, 0, none⟩) 2 2 (i64s [1, 2]) (W1.heap.size + 1 + 1) (.int .i64 0) rfl rfl rfl (by omega) ?_ ?_ (by first | (simp; done) | (simp; omega) | omega) ?_); rotate_right; intro A6 c6 w1 hown1 hb1 hg1; rotate_left; (exact (((World.ownsRow_lit W1 #[.int .i64 1, .int .i64 2] 2 (Nat.le_refl _) (by decide) rfl).alloc _).alloc _)); (exact cell_of_row _ _ 0 #[.int .i64 0] 3 (0, 0) (heap_at _ _ _ (by simp))))
    | (at_make; have hs1 := hgrow1.size; simp at hs1; refine wpList_make_full _ rfl _ _ 22 rfl W1.heap.size 3 i0 (.int .i64 0) 1 Try.underlying22 hi hz0 hz1 _ _ _ _ (17 + bits .and .i64 a1 63).toNat rfl rfl (by omega) (by omega) (by rw [hz2]; omega) (by unfold maxLen; omega) (by first | (simp; done) | (simp; omega) | omega) ?_; intro w2 hown2 hgrow2)
    | (at_make; refine wpList_make_full _ rfl _ _ 22 rfl W1.heap.size 3 i0 (.int .i64 0) 1 Try.underlying22 hi hz0 hz1 _ _ _ _ (17 + bits .and .i64 a1 63).toNat rfl rfl (by omega) (by omega) (by rw [hz2]; omega) (by unfold maxLen; omega) (by first | (simp; done) | (simp; omega) | omega) ?_; intro w1 hown1 hgrow1))
  · generalize hW : (W1.alloc _).alloc _ = W
    obtain ⟨xs, ys, hx, hy, hp⟩ : ∃ xs ys, Ints W W.heap.size none 0 xs ∧ Ints W W.heap.size (some ⟨W1.heap.size + 1, 0, none⟩) 2 ys ∧ pairMay xs ys = false :=
      ⟨[], [2, 1], Ints.none_ _ _ _, Ints.of_block (e := 3) (cs := #[.int .i64 2, .int .i64 1]) _ (hW ▸ heap_at _ _ _ (by simp)) rfl rfl, by decide⟩
    have hB : Below w.heap.size w W := by rw [← hW]; exact hB1.trans ((((Below.refl _ _).alloc (by first | (simp; done) | (simp; omega) | omega) _).alloc (by first | (simp; done) | (simp; omega) | omega) _).mono hB1.size)
    clear hW
    refine (Below_any _ _ _ xs _ _ _ ys false 1800 (by simp [belowAns, hp]) _ _ hx (small_maxLen (by omega)) hy (small_maxLen (by omega))).mono ?_; rintro e W5 ⟨rfl, m5, rfl⟩; go_wp2_with fail; refine (Join_any _ _ _ xs _ _ _ ys [] 1800 (by simp [joinAns, hp]) _ (hx.drewN _) (small_maxLen (by omega)) (hy.drewN _) (small_maxLen (by omega))).mono ?_; rintro e W6 ⟨A6, n6, c6, rfl, hj, hn6, hb6⟩; obtain rfl : n6 = 0 := hj.len.symm; have hx6 := (hx.drewN m5).below hb6; have hy6 := (hy.drewN m5).below hb6; have hB6 : Below w.heap.size w W6 := (below_drewN hB _).trans (hb6.mono hB.size); clear hx hy hB hj hb6; go_wp2_with fail; refine (Apart_any _ _ _ xs _ _ _ ys false 1800 (by simp [apartAns, hp]) _ _ hx6 (small_maxLen (by omega)) hy6 (small_maxLen (by omega))).mono ?_; rintro e W7 ⟨rfl, m7, rfl⟩; go_wp2_with (go_at_call 23; refine (Num_any _ _).mono ?_; rintro e w' ⟨rfl, rfl⟩); go_ret; exact ⟨rfl, below_drewN hB6 _⟩
  · generalize hW : (W1.alloc _).alloc _ = W
    obtain ⟨xs, ys, hx, hy, hp⟩ : ∃ xs ys, Ints W W.heap.size (some ⟨W1.heap.size, 0, none⟩) 2 xs ∧ Ints W W.heap.size none 0 ys ∧ pairMay xs ys = false :=
      ⟨[1, 2], [], Ints.of_block (e := 3) (cs := #[.int .i64 1, .int .i64 2]) _ (hW ▸ heap_up _ _ _ _ (heap_at _ _ _ rfl)) rfl rfl, Ints.none_ _ _ _, by decide⟩
    have hB : Below w.heap.size w W := by rw [← hW]; exact hB1.trans ((((Below.refl _ _).alloc (by first | (simp; done) | (simp; omega) | omega) _).alloc (by first | (simp; done) | (simp; omega) | omega) _).mono hB1.size)
    clear hW
    refine (Below_any _ _ _ xs _ _ _ ys false 1800 (by simp [belowAns, hp]) _ _ hx (small_maxLen (by omega)) hy (small_maxLen (by omega))).mono ?_; rintro e W5 ⟨rfl, m5, rfl⟩; go_wp2_with fail; refine (Join_any _ _ _ xs _ _ _ ys [] 1800 (by simp [joinAns, hp]) _ (hx.drewN _) (small_maxLen (by omega)) (hy.drewN _) (small_maxLen (by omega))).mono ?_; rintro e W6 ⟨A6, n6, c6, rfl, hj, hn6, hb6⟩; obtain rfl : n6 = 0 := hj.len.symm; have hx6 := (hx.drewN m5).below hb6; have hy6 := (hy.drewN m5).below hb6; have hB6 : Below w.heap.size w W6 := (below_drewN hB _).trans (hb6.mono hB.size); clear hx hy hB hj hb6; go_wp2_with fail; refine (Apart_any _ _ _ xs _ _ _ ys false 1800 (by simp [apartAns, hp]) _ _ hx6 (small_maxLen (by omega)) hy6 (small_maxLen (by omega))).mono ?_; rintro e W7 ⟨rfl, m7, rfl⟩; go_wp2_with (go_at_call 23; refine (Num_any _ _).mono ?_; rintro e w' ⟨rfl, rfl⟩); go_ret; exact ⟨rfl, below_drewN hB6 _⟩
  · generalize hW : (W1.alloc _).alloc _ = W
    obtain ⟨xs, ys, hx, hy, hp⟩ : ∃ xs ys, Ints W W.heap.size (some ⟨W1.heap.size, 0, none⟩) 2 xs ∧ Ints W W.heap.size (some ⟨W1.heap.size + 1, 0, none⟩) 2 ys ∧ pairMay xs ys = false :=
      ⟨[-(1 + bits .and .i64 a1 63), 2], [2, 1], Ints.of_block (e := 3) (cs := #[.int .i64 (-(1 + bits .and .i64 a1 63)), .int .i64 2]) _ (hW ▸ heap_up _ _ _ _ (heap_at _ _ _ rfl)) rfl rfl,
        Ints.of_block (e := 3) (cs := #[.int .i64 2, .int .i64 1]) _ (hW ▸ heap_at _ _ _ (by simp)) rfl rfl, pairMay_no (.inl (by simp [vecMay, inside]; omega))⟩
    have hB : Below w.heap.size w W := by rw [← hW]; exact hB1.trans ((((Below.refl _ _).alloc (by first | (simp; done) | (simp; omega) | omega) _).alloc (by first | (simp; done) | (simp; omega) | omega) _).mono hB1.size)
    clear hW
    refine (Below_any _ _ _ xs _ _ _ ys false 1800 (by simp [belowAns, hp]) _ _ hx (small_maxLen (by omega)) hy (small_maxLen (by omega))).mono ?_; rintro e W5 ⟨rfl, m5, rfl⟩; go_wp2_with fail; refine (Join_any _ _ _ xs _ _ _ ys [] 1800 (by simp [joinAns, hp]) _ (hx.drewN _) (small_maxLen (by omega)) (hy.drewN _) (small_maxLen (by omega))).mono ?_; rintro e W6 ⟨A6, n6, c6, rfl, hj, hn6, hb6⟩; obtain rfl : n6 = 0 := hj.len.symm; have hx6 := (hx.drewN m5).below hb6; have hy6 := (hy.drewN m5).below hb6; have hB6 : Below w.heap.size w W6 := (below_drewN hB _).trans (hb6.mono hB.size); clear hx hy hB hj hb6; go_wp2_with fail; refine (Apart_any _ _ _ xs _ _ _ ys false 1800 (by simp [apartAns, hp]) _ _ hx6 (small_maxLen (by omega)) hy6 (small_maxLen (by omega))).mono ?_; rintro e W7 ⟨rfl, m7, rfl⟩; go_wp2_with (go_at_call 23; refine (Num_any _ _).mono ?_; rintro e w' ⟨rfl, rfl⟩); go_ret; exact ⟨rfl, below_drewN hB6 _⟩
  · generalize hW : (W1.alloc _).alloc _ = W
    obtain ⟨xs, ys, hx, hy, hp⟩ : ∃ xs ys, Ints W W.heap.size (some ⟨W1.heap.size, 0, none⟩) 2 xs ∧ Ints W W.heap.size (some ⟨W1.heap.size + 1, 0, none⟩) 2 ys ∧ pairMay xs ys = false :=
      ⟨[1, 2], [2, 256 + (1 + bits .and .i64 a1 63)], Ints.of_block (e := 3) (cs := #[.int .i64 1, .int .i64 2]) _ (hW ▸ heap_up _ _ _ _ (heap_at _ _ _ rfl)) rfl rfl,
        Ints.of_block (e := 3) (cs := #[.int .i64 2, .int .i64 (256 + (1 + bits .and .i64 a1 63))]) _ (hW ▸ heap_at _ _ _ (by simp)) rfl rfl, pairMay_no (.inr (.inl (by simp [vecMay, inside]; omega)))⟩
    have hB : Below w.heap.size w W := by rw [← hW]; exact hB1.trans ((((Below.refl _ _).alloc (by first | (simp; done) | (simp; omega) | omega) _).alloc (by first | (simp; done) | (simp; omega) | omega) _).mono hB1.size)
    clear hW
    refine (Below_any _ _ _ xs _ _ _ ys false 1800 (by simp [belowAns, hp]) _ _ hx (small_maxLen (by omega)) hy (small_maxLen (by omega))).mono ?_; rintro e W5 ⟨rfl, m5, rfl⟩; go_wp2_with fail; refine (Join_any _ _ _ xs _ _ _ ys [] 1800 (by simp [joinAns, hp]) _ (hx.drewN _) (small_maxLen (by omega)) (hy.drewN _) (small_maxLen (by omega))).mono ?_; rintro e W6 ⟨A6, n6, c6, rfl, hj, hn6, hb6⟩; obtain rfl : n6 = 0 := hj.len.symm; have hx6 := (hx.drewN m5).below hb6; have hy6 := (hy.drewN m5).below hb6; have hB6 : Below w.heap.size w W6 := (below_drewN hB _).trans (hb6.mono hB.size); clear hx hy hB hj hb6; go_wp2_with fail; refine (Apart_any _ _ _ xs _ _ _ ys false 1800 (by simp [apartAns, hp]) _ _ hx6 (small_maxLen (by omega)) hy6 (small_maxLen (by omega))).mono ?_; rintro e W7 ⟨rfl, m7, rfl⟩; go_wp2_with (go_at_call 23; refine (Num_any _ _).mono ?_; rintro e w' ⟨rfl, rfl⟩); go_ret; exact ⟨rfl, below_drewN hB6 _⟩
  · obtain ⟨xs, ys, hx, hy, hp⟩ : ∃ xs ys, Ints w1 w1.heap.size A6 3 xs ∧ Ints w1 w1.heap.size (some ⟨W1.heap.size + 1, 0, none⟩) 2 ys ∧ pairMay xs ys = false :=
      ⟨[1, 2, 0], [2, 1], At.of_own hown1, Ints.of_block (e := 3) (cs := #[.int .i64 2, .int .i64 1]) _ ((hg1.block _ (by simp) (by simp [Value.ownBlock])).trans (heap_up _ _ _ _ (heap_at _ _ _ (by simp)))) rfl rfl, by decide⟩
    have hB : Below w.heap.size w w1 := hB1.trans (((((Below.refl _ _).alloc (by first | (simp; done) | (simp; omega) | omega) _).alloc (by first | (simp; done) | (simp; omega) | omega) _).alloc (by first | (simp; done) | (simp; omega) | omega) _ |>.trans hb1).mono hB1.size)
    clear hown1 hg1 hb1
    refine (Below_any _ _ _ xs _ _ _ ys false 1800 (by simp [belowAns, hp]) _ _ hx (small_maxLen (by omega)) hy (small_maxLen (by omega))).mono ?_; rintro e W5 ⟨rfl, m5, rfl⟩; go_wp2_with fail; refine (Join_any _ _ _ xs _ _ _ ys [] 1800 (by simp [joinAns, hp]) _ (hx.drewN _) (small_maxLen (by omega)) (hy.drewN _) (small_maxLen (by omega))).mono ?_; rintro e W6 ⟨A6, n6, c6, rfl, hj, hn6, hb6⟩; obtain rfl : n6 = 0 := hj.len.symm; have hx6 := (hx.drewN m5).below hb6; have hy6 := (hy.drewN m5).below hb6; have hB6 : Below w.heap.size w W6 := (below_drewN hB _).trans (hb6.mono hB.size); clear hx hy hB hj hb6; go_wp2_with fail; refine (Apart_any _ _ _ xs _ _ _ ys false 1800 (by simp [apartAns, hp]) _ _ hx6 (small_maxLen (by omega)) hy6 (small_maxLen (by omega))).mono ?_; rintro e W7 ⟨rfl, m7, rfl⟩; go_wp2_with (go_at_call 23; refine (Num_any _ _).mono ?_; rintro e w' ⟨rfl, rfl⟩); go_ret; exact ⟨rfl, below_drewN hB6 _⟩
  · have hn : (17 + bits .and .i64 a1 63).toNat ≤ 80 := by omega
    have hz : pairMay (List.replicate (17 + bits .and .i64 a1 63).toNat 0) (List.replicate (17 + bits .and .i64 a1 63).toNat 0) = false := pairMay_no (.inl (by simp [vecMay]; omega))
    have hc0 : (Value.int .i64 0).cells = #[.int .i64 0] := rfl
    rw [hc0, Nat.mul_one, toList_madeCells_one] at hown1 hown2
    clear hc0
    have hown1' := hown1.kept hgrow2 (.inr (by simp [Value.ownBlock]))
    rw [alloc_size, alloc_size] at hown1'
    generalize (17 + bits .and .i64 a1 63).toNat = n at *
    obtain ⟨xs, ys, hx, hy, hp⟩ : ∃ xs ys, Ints w2 w2.heap.size (some ⟨W1.heap.size + 1 + 1, 0, none⟩) n xs ∧ Ints w2 w2.heap.size (some ⟨w1.heap.size, 0, none⟩) n ys ∧ pairMay xs ys = false :=
      ⟨List.replicate n 0, List.replicate n 0, by unfold Ints; rw [← i64s_zeros]; exact At.of_own hown1', by unfold Ints; rw [← i64s_zeros]; exact At.of_own hown2, hz⟩
    have hs1 := hgrow1.size
    simp at hs1
    have hB : Below w.heap.size w w2 := hB1.trans ((((((Below.refl _ _).alloc (by first | (simp; done) | (simp; omega) | omega) _).alloc (by first | (simp; done) | (simp; omega) | omega) _).grown hgrow1 (by first | (simp; done) | (simp; omega) | omega) (fun k h => by cases h)).grown hgrow2 (by first | (simp; done) | (simp; omega) | omega) (fun k h => by cases h)).mono hB1.size)
    clear hown1 hown1' hown2 hgrow1 hgrow2
    refine (Below_any _ _ _ xs _ _ _ ys false 1800 (by simp [belowAns, hp]) _ _ hx (small_maxLen (by omega)) hy (small_maxLen (by omega))).mono ?_; rintro e W5 ⟨rfl, m5, rfl⟩; go_wp2_with fail; refine (Join_any _ _ _ xs _ _ _ ys [] 1800 (by simp [joinAns, hp]) _ (hx.drewN _) (small_maxLen (by omega)) (hy.drewN _) (small_maxLen (by omega))).mono ?_; rintro e W6 ⟨A6, n6, c6, rfl, hj, hn6, hb6⟩; obtain rfl : n6 = 0 := hj.len.symm; have hx6 := (hx.drewN m5).below hb6; have hy6 := (hy.drewN m5).below hb6; have hB6 : Below w.heap.size w W6 := (below_drewN hB _).trans (hb6.mono hB.size); clear hx hy hB hj hb6; go_wp2_with fail; refine (Apart_any _ _ _ xs _ _ _ ys false 1800 (by simp [apartAns, hp]) _ _ hx6 (small_maxLen (by omega)) hy6 (small_maxLen (by omega))).mono ?_; rintro e W7 ⟨rfl, m7, rfl⟩; go_wp2_with (go_at_call 23; refine (Num_any _ _).mono ?_; rintro e w' ⟨rfl, rfl⟩); go_ret; exact ⟨rfl, below_drewN hB6 _⟩

end Go.Proofs.Ytoigdbllpiffmaa
