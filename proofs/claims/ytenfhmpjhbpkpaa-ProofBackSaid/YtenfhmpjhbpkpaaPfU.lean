/- The statement ProofForms: its walk. -/
import Derived.Test.YtenfhmpjhbpkpaaPfR
import Derived.Test.YtenfhmpjhbpkpaaRefBe
namespace Go.Proofs.Ytenfhmpjhbpkpaa
open Go.RowKit
open Go.Lib (strCells strCells_length strCells_oneCell)
attribute [local irreducible] Sha.compress Sha.blocks Sha.sha Sha.pad

theorem and_mask (x : Int) (j : Nat) (hj : j ≤ 62) (m : Int) (hm : m = ((2 ^ j - 1 : Nat) : Int)) : ∃ k : Nat, k < 2 ^ j ∧ bits .and .i64 x m = (k : Int) ∧ (k : Int) = x % ((2 ^ j : Nat) : Int) := by
  subst hm
  have hp : 2 ^ j ≤ 2 ^ 62 := Nat.pow_le_pow_right (by decide) hj
  have hp0 : 0 < 2 ^ j := Nat.pow_pos (by decide)
  have hd : ∃ c, 2 ^ 64 = 2 ^ j * c := ⟨2 ^ (64 - j), by rw [← Nat.pow_add]; congr 1; omega⟩
  obtain ⟨c, hc⟩ := hd
  have e1 : (BitVec.ofInt 64 x &&& BitVec.ofInt 64 ((2 ^ j - 1 : Nat) : Int)).toNat = (x % ((2 ^ j : Nat) : Int)).toNat := by
    rw [BitVec.ofInt_natCast, BitVec.toNat_and, BitVec.toNat_ofNat, Nat.mod_eq_of_lt (by omega), Nat.and_two_pow_sub_one_eq_mod, BitVec.toNat_ofInt]
    have h1 : 0 ≤ x % ((2 ^ 64 : Nat) : Int) := Int.emod_nonneg _ (by decide)
    have h2 : (x % ((2 ^ 64 : Nat) : Int)) % ((2 ^ j : Nat) : Int) = x % ((2 ^ j : Nat) : Int) := by
      rw [hc]
      exact Int.emod_emod_of_dvd x ⟨(c : Int), by rw [Int.natCast_mul]⟩
    have h3 : (((x % ((2 ^ 64 : Nat) : Int)).toNat % 2 ^ j : Nat) : Int) = x % ((2 ^ j : Nat) : Int) := by
      rw [Int.natCast_emod, Int.toNat_of_nonneg h1, h2]
    have h4 : 0 ≤ x % ((2 ^ j : Nat) : Int) := Int.emod_nonneg _ (by omega)
    omega
  have h4 : 0 ≤ x % ((2 ^ j : Nat) : Int) := Int.emod_nonneg _ (by omega)
  have h5 : x % ((2 ^ j : Nat) : Int) < ((2 ^ j : Nat) : Int) := Int.emod_lt_of_pos _ (by omega)
  refine ⟨(x % ((2 ^ j : Nat) : Int)).toNat, by omega, ?_, by omega⟩
  show IntKind.i64.wrap ((BitVec.ofInt 64 x &&& BitVec.ofInt 64 ((2 ^ j - 1 : Nat) : Int)).toNat : Int) = _
  rw [e1]
  exact IntWalk.i64_in _ (by omega)

theorem emptiesL (W : World) (n : Nat) : Texts (W.alloc (.cells (List.replicate n (.string ByteArray.empty)).toArray 9)) (W.alloc (.cells (List.replicate n (.string ByteArray.empty)).toArray 9)).heap.size (some ⟨W.heap.size, 0, none⟩) n (List.replicate n ByteArray.empty) :=
  Texts.new W _ _ (by simp [strs]) n (by simp) _

theorem empties (W : World) (n : Nat) : Texts (W.alloc (.cells (Array.replicate n (.string ByteArray.empty)) 9)) (W.alloc (.cells (Array.replicate n (.string ByteArray.empty)) 9)).heap.size (some ⟨W.heap.size, 0, none⟩) n (List.replicate n ByteArray.empty) :=
  Texts.new W _ _ (by simp [strs]) n (by simp) _

set_option maxRecDepth 100000 in
set_option maxHeartbeats 8000000 in
theorem ProofForms_law {w : World} (size i m : Int) :
    Calls Try.prog 11 #[.int .i64 size, .int .i64 i, .int .i64 m] w fun e w' => e = .returned (.bool true) ∧ Below w.heap.size w w' := by
  have hm16 := and_mask size 4 (by decide) 15 rfl
  obtain ⟨k, hk, hand, -⟩ := hm16
  have hk16 : k < 16 := hk
  obtain ⟨i0, hi0, hz0, hz1, hz2⟩ := info_parts Try.infoStr
  have hxl : (List.replicate k ByteArray.empty).length = k := List.length_replicate
  have hs : ∀ s ∈ List.replicate k ByteArray.empty, s.size ≤ 140737488351232 := fun s h => by rw [List.eq_of_mem_replicate h]; decide
  have hs2 : ∀ s ∈ List.replicate 257 ByteArray.empty, s.size ≤ 140737488351232 := fun s h => by rw [List.eq_of_mem_replicate h]; decide
  have hx0 := hid (fun W => empties W k)
  have hi2 : ∃ v, (incL (List.replicate 257 ByteArray.empty) 0).length = v ∧ incE (List.replicate 257 ByteArray.empty) 0 = 1000 := ⟨_, rfl, if_neg (fun h => by have := h.1; rw [List.length_replicate] at this; omega)⟩
  have hck2 : ∀ r, ckIncE (leafH (ByteArray.mk #[]).data.toList) 0 257 [] r = 1000 := fun r => if_neg (fun h => by have := h.2.1; omega)
  obtain ⟨v2, hv2, he2⟩ := hi2
  have hie1 : 0 ≤ i ∧ i < (k : Int) → incE (List.replicate k ByteArray.empty) i = 0 := fun h => if_pos ⟨by omega, h.1, by rw [hxl]; exact h.2⟩
  have hie2 : ¬ (0 ≤ i ∧ i < (k : Int)) → incE (List.replicate k ByteArray.empty) i = 1000 := fun h => if_neg (fun h2 => h ⟨h2.2.1, by have h3 := h2.2.2; rw [hxl] at h3; exact h3⟩)
  have hce1 : 1 ≤ m ∧ m ≤ (k : Int) → conE (List.replicate k ByteArray.empty) m = 0 := fun h => if_pos ⟨by omega, h.1, by rw [hxl]; exact h.2⟩
  have hce2 : ¬ (1 ≤ m ∧ m ≤ (k : Int)) → conE (List.replicate k ByteArray.empty) m = 1000 := fun h => if_neg (fun h2 => h ⟨h2.2.1, by have h3 := h2.2.2; rw [hxl] at h3; exact h3⟩)
  have hfe1 : ∀ r, 0 ≤ i ∧ i < (k : Int) → ckIncE (leafH (ByteArray.mk #[]).data.toList) i k [] r ≠ 1000 := fun r h => by
    unfold ckIncE
    rw [if_pos ⟨by omega, by omega, h.1, h.2⟩]
    split <;> decide
  have hfe2 : ∀ r, ¬ (0 ≤ i ∧ i < (k : Int)) → ckIncE (leafH (ByteArray.mk #[]).data.toList) i k [] r = 1000 := fun r h => if_neg (fun h2 => h h2.2.2)
  have hhe1 : ∀ r, 1 ≤ m ∧ m ≤ (k : Int) → ckConE m r k r [] ≠ 1000 := fun r h => by
    unfold ckConE
    rw [if_pos ⟨by omega, by omega, h.1, h.2⟩]
    split <;> decide
  have hhe2 : ∀ r, ¬ (1 ≤ m ∧ m ≤ (k : Int)) → ckConE m r k r [] = 1000 := fun r h => if_neg (fun h2 => h h2.2.2)
  have hrr := hid (fun W A (h : Texts W W.heap.size A k (List.replicate k ByteArray.empty)) => rRoot_any k A k _ W.heap.size W h (Nat.le_refl _) (Nat.le_refl _) (by omega) hs)
  have hI := hid (fun W A (h : Texts W W.heap.size A k (List.replicate k ByteArray.empty)) => pInclusion_any A k k _ i W h (Nat.le_refl _) hs)
  have hC := hid (fun W A (h : Texts W W.heap.size A k (List.replicate k ByteArray.empty)) => pConsistency_any A k k _ m W h (Nat.le_refl _) hs)
  have hI2 := hid (fun W A (h : Texts W W.heap.size A 257 (List.replicate 257 ByteArray.empty)) => pInclusion_any A 257 257 _ 0 W h (Nat.le_refl _) hs2)
  have hrl := rootH_len (List.replicate k ByteArray.empty)
  have hcr := hid (hash_cells _ hrl)
  have hF := hid (fun W => pCheckInc_any ⟨#[]⟩ i k none 0 0 [] (rootH (List.replicate k ByteArray.empty)) W (by decide) (Hashs.nil_ W _) (Nat.le_refl _) hrl)
  have hF2 := hid (fun W => pCheckInc_any ⟨#[]⟩ 0 257 none 0 0 [] (rootH (List.replicate k ByteArray.empty)) W (by decide) (Hashs.nil_ W _) (Nat.le_refl _) hrl)
  have hH := hid (fun W => pCheckCon_any m k none 0 0 [] (rootH (List.replicate k ByteArray.empty)) (rootH (List.replicate k ByteArray.empty)) W (Hashs.nil_ W _) (Nat.le_refl _) (by decide) hrl hrl)
  rw [hck2] at hF2
  rw [hv2, he2] at hI2
  have hfe1 := hid (hfe1 (rootH (List.replicate k ByteArray.empty)))
  have hfe2 := hid (hfe2 (rootH (List.replicate k ByteArray.empty)))
  have hhe1 := hid (hhe1 (rootH (List.replicate k ByteArray.empty)))
  have hhe2 := hid (hhe2 (rootH (List.replicate k ByteArray.empty)))
  unfold hv at hrr hF hF2 hH
  generalize ckIncE (leafH (ByteArray.mk #[]).data.toList) i k [] (rootH (List.replicate k ByteArray.empty)) = fe at *
  generalize ckConE m (rootH (List.replicate k ByteArray.empty)) k (rootH (List.replicate k ByteArray.empty)) [] = he at *
  generalize byteCells (rootH (List.replicate k ByteArray.empty)) = cr at *
  generalize incE (List.replicate k ByteArray.empty) i = ie at *
  generalize conE (List.replicate k ByteArray.empty) m = ce at *
  have hie1 := hid hie1
  have hie2 := hid hie2
  have hce1 := hid hce1
  have hce2 := hid hce2
  have hk16' := hid hk16
  clear hxl hs hs2 hk hck2 he2 hv2 hrl
  go_enter Try.func11, Try.ntmps11
  go_wp2_with fail
  have hB0 := hid (Below.refl w.heap.size w)
  refine (awake10_any _).mono ?_
  rintro e W1 ⟨rfl, hb⟩
  have hB1 := hid (below_up hb hB0.out)
  clear hb hB0
  go_wp2_with (first
    | ((with_reducible refine at_slot (some 26) ?_); refine wpList_make_block rfl _ _ _ rfl 9 i0 (.string ByteArray.empty) Try.underlying22 hi0 hz0 hz1 rfl (by omega) (k : Int) k rfl rfl rfl (by omega) ?_)
    | fail)
  have hb : Below W1.heap.size W1 (W1.alloc (.cells (Array.replicate k (.string ByteArray.empty)) 9)) := (Below.refl _ _).alloc (Nat.le_refl _) _
  have hN := hx0.out W1
  generalize hWg : W1.alloc (.cells (Array.replicate k (.string ByteArray.empty)) 9) = W2 at *
  clear hWg
  have hB2 := hid (below_up hb hB1.out)
  have hX2 := hid hN
  clear hb hB1 hN
  refine (hrr.out _ _ hX2.out).mono ?_
  rintro e W3 ⟨rfl, hb⟩
  have hB3 := hid (below_up hb hB2.out)
  have hX3 := hid ((hX2.out.below hb).more hb.size)
  clear hb hB2 hX2
  try (rename_i hK1; refine hK1 _ _ ?_; clear hK1)
  go_wp2_with (first
    | ((with_reducible refine at_slot (some 9) ?_); refine wpList_run rfl (.pointer (some ⟨W3.heap.size, 0, none⟩)) (W3.alloc (.cells z32 28)) (by kernel_rfl) ?_)
    | ((with_reducible refine at_slot none ?_); refine wpList_store_mid rfl 28 (.tmp 9) (.tmp 28) rfl W3.heap.size 0 cr.toArray rfl rfl (by exact hcr.out.there W3) (by exact hcr.out.size) (by exact hcr.out.one) ?_; generalize hW : World.setCells _ _ _ _ = W4; obtain ⟨hN, hb⟩ := hcr.out.new hW; have hB4 := hid (below_up hb hB3.out); have hX4 := hid ((hX3.out.below hb).more hb.size); have hR4 := hid hN; clear hb hB3 hX3 hN; clear hW)
    | fail)
  refine (hI.out _ _ hX4.out).mono ?_
  rintro e W5 ⟨A1, d1, rfl, -, -, -, -, hb⟩
  have hB5 := hid (below_up hb hB4.out)
  have hX5 := hid ((hX4.out.below hb).more hb.size)
  have hR5 := hid (hR4.out.below hb hR4.out.lt)
  clear hb hB4 hX4 hR4
  go_wp2_with (first
    | ((with_reducible refine at_slot (some 37) ?_); refine wpList_load_mid rfl 28 (.tmp 9) rfl W3.heap.size 0 rfl cr _ (by exact h_all hR5.out) Try.underlying28 rfl (by exact hcr.out.size') ?_)
    | fail)
  refine (hF.out _).mono ?_
  rintro e W6 ⟨rfl, hb⟩
  have hB6 := hid (below_up hb hB5.out)
  have hX6 := hid ((hX5.out.below hb).more hb.size)
  have hR6 := hid (hR5.out.below hb hR5.out.lt)
  clear hb hB5 hX5 hR5
  go_wp2_with fail
  refine (hC.out _ _ hX6.out).mono ?_
  rintro e W7 ⟨A2, d2, rfl, -, -, -, -, hb⟩
  have hB7 := hid (below_up hb hB6.out)
  have hX7 := hid ((hX6.out.below hb).more hb.size)
  have hR7 := hid (hR6.out.below hb hR6.out.lt)
  clear hb hB6 hX6 hR6
  go_wp2_with (first
    | ((with_reducible refine at_slot (some 46) ?_); refine wpList_load_mid rfl 28 (.tmp 9) rfl W3.heap.size 0 rfl cr _ (by exact h_all hR7.out) Try.underlying28 rfl (by exact hcr.out.size') ?_)
    | ((with_reducible refine at_slot (some 48) ?_); refine wpList_load_mid rfl 28 (.tmp 9) rfl W3.heap.size 0 rfl cr _ (by exact h_all hR7.out) Try.underlying28 rfl (by exact hcr.out.size') ?_)
    | fail)
  refine (hH.out _).mono ?_
  rintro e W8 ⟨rfl, hb⟩
  have hB8 := hid (below_up hb hB7.out)
  have hX8 := hid ((hX7.out.below hb).more hb.size)
  have hR8 := hid (hR7.out.below hb hR7.out.lt)
  clear hb hB7 hX7 hR7
  go_wp2_with (first
    | ((with_reducible refine at_slot (some 51) ?_); refine wpList_make_block rfl _ _ _ rfl 9 i0 (.string ByteArray.empty) Try.underlying22 hi0 hz0 hz1 rfl (by omega) 257 257 rfl rfl rfl (by omega) ?_; generalize hWg : World.alloc _ _ = W9; have hWg' := hid hWg; clear hWg)
    | fail)
  have hb : Below W8.heap.size W8 W9 := by rw [← hWg'.out]; exact (Below.refl _ _).alloc (Nat.le_refl _) _
  have hN : Texts W9 W9.heap.size (some ⟨W8.heap.size, 0, none⟩) 257 (List.replicate 257 ByteArray.empty) := by rw [← hWg'.out]; exact emptiesL W8 257
  have hB9 := hid (below_up hb hB8.out)
  have hX9 := hid ((hX8.out.below hb).more hb.size)
  have hR9 := hid (hR8.out.below hb hR8.out.lt)
  have hY9 := hid hN
  clear hb hB8 hX8 hR8 hN
  refine (hI2.out _ _ hY9.out).mono ?_
  rintro e W10 ⟨A3, d3, rfl, -, -, -, -, hb⟩
  have hB10 := hid (below_up hb hB9.out)
  have hX10 := hid ((hX9.out.below hb).more hb.size)
  have hR10 := hid (hR9.out.below hb hR9.out.lt)
  have hY10 := hid ((hY9.out.below hb).more hb.size)
  clear hb hB9 hX9 hR9 hY9
  go_wp2_with (first
    | ((with_reducible refine at_slot (some 55) ?_); refine wpList_load_mid rfl 28 (.tmp 9) rfl W3.heap.size 0 rfl cr _ (by exact h_all hR10.out) Try.underlying28 rfl (by exact hcr.out.size') ?_)
    | fail)
  refine (hF2.out _).mono ?_
  rintro e W11 ⟨rfl, hb⟩
  have hB11 := hid (below_up hb hB10.out)
  have hX11 := hid ((hX10.out.below hb).more hb.size)
  have hR11 := hid (hR10.out.below hb hR10.out.lt)
  have hY11 := hid ((hY10.out.below hb).more hb.size)
  clear hb hB10 hX10 hR10 hY10
  have hBe := hid hB11.out
  by_cases p1 : 0 ≤ i
  · by_cases p2 : i < (k : Int)
    · have e1 := hie1.out ⟨p1, p2⟩
      have e2 : (fe == 1000) = false := beq_eq_false_iff_ne.2 (hfe1.out ⟨p1, p2⟩)
      subst e1
      by_cases q1 : 1 ≤ m
      · by_cases q2 : m ≤ (k : Int)
        · have e3 := hce1.out ⟨q1, q2⟩
          have e4 : (he == 1000) = false := beq_eq_false_iff_ne.2 (hhe1.out ⟨q1, q2⟩)
          subst e3
          go_wp2_with (go_at_call 25; refine (errNum_any _ _).mono ?_; rintro e w' ⟨rfl, rfl⟩)
          go_ret
          exact ⟨rfl, hBe.out⟩
        · have q3 : decide (m ≤ (k : Int)) = false := decide_eq_false q2
          have e3 := hce2.out (fun h => q2 h.2)
          have e4 := hhe2.out (fun h => q2 h.2)
          subst e3 e4
          go_wp2_with (go_at_call 25; refine (errNum_any _ _).mono ?_; rintro e w' ⟨rfl, rfl⟩)
          go_ret
          exact ⟨rfl, hBe.out⟩
      · have e3 := hce2.out (fun h => q1 h.1)
        have e4 := hhe2.out (fun h => q1 h.1)
        subst e3 e4
        go_wp2_with (go_at_call 25; refine (errNum_any _ _).mono ?_; rintro e w' ⟨rfl, rfl⟩)
        go_ret
        exact ⟨rfl, hBe.out⟩
    · have p3 : decide (i < (k : Int)) = false := decide_eq_false p2
      have e1 := hie2.out (fun h => p2 h.2)
      have e2 := hfe2.out (fun h => p2 h.2)
      subst e1 e2
      by_cases q1 : 1 ≤ m
      · by_cases q2 : m ≤ (k : Int)
        · have e3 := hce1.out ⟨q1, q2⟩
          have e4 : (he == 1000) = false := beq_eq_false_iff_ne.2 (hhe1.out ⟨q1, q2⟩)
          subst e3
          go_wp2_with (go_at_call 25; refine (errNum_any _ _).mono ?_; rintro e w' ⟨rfl, rfl⟩)
          go_ret
          exact ⟨rfl, hBe.out⟩
        · have q3 : decide (m ≤ (k : Int)) = false := decide_eq_false q2
          have e3 := hce2.out (fun h => q2 h.2)
          have e4 := hhe2.out (fun h => q2 h.2)
          subst e3 e4
          go_wp2_with (go_at_call 25; refine (errNum_any _ _).mono ?_; rintro e w' ⟨rfl, rfl⟩)
          go_ret
          exact ⟨rfl, hBe.out⟩
      · have e3 := hce2.out (fun h => q1 h.1)
        have e4 := hhe2.out (fun h => q1 h.1)
        subst e3 e4
        go_wp2_with (go_at_call 25; refine (errNum_any _ _).mono ?_; rintro e w' ⟨rfl, rfl⟩)
        go_ret
        exact ⟨rfl, hBe.out⟩
  · have e1 := hie2.out (fun h => p1 h.1)
    have e2 := hfe2.out (fun h => p1 h.1)
    subst e1 e2
    by_cases q1 : 1 ≤ m
    · by_cases q2 : m ≤ (k : Int)
      · have e3 := hce1.out ⟨q1, q2⟩
        have e4 : (he == 1000) = false := beq_eq_false_iff_ne.2 (hhe1.out ⟨q1, q2⟩)
        subst e3
        go_wp2_with (go_at_call 25; refine (errNum_any _ _).mono ?_; rintro e w' ⟨rfl, rfl⟩)
        go_ret
        exact ⟨rfl, hBe.out⟩
      · have q3 : decide (m ≤ (k : Int)) = false := decide_eq_false q2
        have e3 := hce2.out (fun h => q2 h.2)
        have e4 := hhe2.out (fun h => q2 h.2)
        subst e3 e4
        go_wp2_with (go_at_call 25; refine (errNum_any _ _).mono ?_; rintro e w' ⟨rfl, rfl⟩)
        go_ret
        exact ⟨rfl, hBe.out⟩
    · have e3 := hce2.out (fun h => q1 h.1)
      have e4 := hhe2.out (fun h => q1 h.1)
      subst e3 e4
      go_wp2_with (go_at_call 25; refine (errNum_any _ _).mono ?_; rintro e w' ⟨rfl, rfl⟩)
      go_ret
      exact ⟨rfl, hBe.out⟩

end Go.Proofs.Ytenfhmpjhbpkpaa
