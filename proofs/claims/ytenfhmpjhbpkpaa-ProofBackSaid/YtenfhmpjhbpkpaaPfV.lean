/- The statement ProofSizes: its walk. -/
import Derived.Test.YtenfhmpjhbpkpaaPfU
namespace Go.Proofs.Ytenfhmpjhbpkpaa
open Go.RowKit
open Go.Lib (strCells strCells_length strCells_oneCell)
attribute [local irreducible] Sha.compress Sha.blocks Sha.sha Sha.pad

/-- How deep the leaf lies. -/
def dep (i n : Nat) : Nat := (Mth.pathOf rootH i (List.replicate n ByteArray.empty)).length
theorem dep_one (i n : Nat) (h : n ≤ 1) : dep i n = 0 := by rw [dep, Mth.pathOf_one rootH i _ (by rw [List.length_replicate]; exact h)]; rfl
theorem dep_two (i n : Nat) (h : 2 ≤ n) : dep i n = if i < Mth.cut n then dep i (Mth.cut n) + 1 else dep (i - Mth.cut n) (n - Mth.cut n) + 1 := by
  obtain ⟨c1, c2, -, -⟩ := Mth.cut_spec n h
  unfold dep
  rw [Mth.pathOf_two rootH i _ (by rw [List.length_replicate]; exact h), List.length_replicate, List.take_replicate, List.drop_replicate, Nat.min_eq_left (by omega)]
  split <;> rw [List.length_append] <;> rfl

theorem con_all (n : Nat) : (conL (List.replicate n ByteArray.empty) n).length = 0 := by
  unfold conL
  split
  · have h := Mth.subOf_all rootH (List.replicate n ByteArray.empty) true
    rw [List.length_replicate] at h
    rw [Int.toNat_natCast, h]
    rfl
  · rfl

theorem con_half (n k b : Nat) (hn : n ≤ 256) (hk : k = 2 ^ b) (h1 : k < n) (h2 : n < 2 * k) : (conL (List.replicate n ByteArray.empty) k).length = 1 := by
  have hk1 : 1 ≤ k := by rw [hk]; exact Nat.pow_pos (by decide)
  have hc : Mth.cut n = k := by rw [hk]; exact Mth.cut_eq n b (by omega) (by omega)
  unfold conL
  rw [if_pos ⟨by rw [List.length_replicate]; exact hn, by omega, by rw [List.length_replicate]; omega⟩, Int.toNat_natCast,
    Mth.subOf_two rootH k _ true hk1 (by rw [List.length_replicate]; exact h1), List.length_replicate, hc, if_pos (Nat.le_refl _), List.take_replicate, Nat.min_eq_left (by omega)]
  have h := Mth.subOf_all rootH (List.replicate k ByteArray.empty) true
  rw [List.length_replicate] at h
  rw [h]
  rfl

theorem u_rem (i : Int) (n : Nat) (h : 1 ≤ n) (hn : n ≤ 1000) : ∃ a : Nat, a < n ∧ (IntKind.u64.wrap i).tmod (n : Int) = (a : Int) := by
  obtain ⟨x, hx⟩ : ∃ x : Nat, IntKind.u64.wrap i = x := ⟨(IntKind.u64.wrap i).toNat, by have e : IntKind.u64.wrap i = i % 18446744073709551616 := rfl; rw [e]; have := Int.emod_nonneg i (show (18446744073709551616 : Int) ≠ 0 by decide); omega⟩
  rw [hx, Int.tmod_eq_emod_of_nonneg (by omega)]
  exact ⟨x % n, Nat.mod_lt _ (by omega), by omega⟩

set_option maxRecDepth 100000 in
set_option maxHeartbeats 8000000 in
theorem ProofSizes_law {w : World} (size i : Int) :
    Calls Try.prog 10 #[.int .i64 size, .int .i64 i] w fun e w' => e = .returned (.bool true) ∧ Below w.heap.size w w' := by
  obtain ⟨K, hK, hand, -⟩ := and_mask size 6 (by decide) 63 rfl
  have hK64 : K < 64 := hK
  obtain ⟨n, hnK⟩ : ∃ n : Nat, K + 1 = n := ⟨_, rfl⟩
  have hsum : 1 + (K : Int) = (n : Int) := by omega
  have hsum2 := IntWalk.i64_in (n : Int) (by omega)
  obtain ⟨a, han, harem⟩ := u_rem i n (by omega) (by omega)
  have hun : IntKind.u64.wrap (n : Int) = (n : Int) := by
    have e : IntKind.u64.wrap (n : Int) = (n : Int) % 18446744073709551616 := rfl
    rw [e]; omega
  have hia := IntWalk.i64_in (a : Int) (by omega)
  obtain ⟨i0, hi0, hz0, hz1, hz2⟩ := info_parts Try.infoStr
  have hxl : (List.replicate n ByteArray.empty).length = n := List.length_replicate
  have hs : ∀ s ∈ List.replicate n ByteArray.empty, s.size ≤ 140737488351232 := fun s h => by rw [List.eq_of_mem_replicate h]; decide
  have hx0 := hid (fun W => empties W n)
  have hie : incE (List.replicate n ByteArray.empty) a = 0 := if_pos ⟨by omega, by omega, by omega⟩
  have hil : (incL (List.replicate n ByteArray.empty) a).length = dep a n := by rw [incL, if_pos ⟨by omega, by omega, by omega⟩, Int.toNat_natCast]; rfl
  have hce : ∀ k : Nat, 1 ≤ k → k ≤ n → conE (List.replicate n ByteArray.empty) k = 0 := fun k h1 h2 => if_pos ⟨by omega, by omega, by omega⟩
  have hI := hid (fun W A (h : Texts W W.heap.size A n (List.replicate n ByteArray.empty)) => pInclusion_any A n n _ a W h (Nat.le_refl _) hs)
  rw [hil, hie] at hI
  have hC := hid (fun W A (k : Nat) (h1 : 1 ≤ k) (h2 : k ≤ n) (h : Texts W W.heap.size A n (List.replicate n ByteArray.empty)) => by
    have := pConsistency_any A n n _ k W h (Nat.le_refl _) hs
    rw [hce k h1 h2] at this
    exact this)
  have hall := hid (con_all n)
  have hhalf := hid (con_half n)
  have hn64 : n ≤ 64 := by omega
  have hn1 : 1 ≤ n := by omega
  have hn0 : ¬ (n : Int) = 0 := by omega
  clear hxl hs hie hil hce hK hnK hK64
  go_enter Try.func10, Try.ntmps10
  go_wp2_with fail
  have hB0 := hid (Below.refl w.heap.size w)
  refine (awake10_any _).mono ?_
  rintro e W1 ⟨rfl, hb⟩
  have hB1 := hid (below_up hb hB0.out)
  clear hb hB0
  go_wp2_with (first
    | ((with_reducible refine at_slot (some 25) ?_); refine wpList_make_block rfl _ _ _ rfl 9 i0 (.string ByteArray.empty) Try.underlying22 hi0 hz0 hz1 rfl (by omega) (n : Int) n rfl rfl rfl (by omega) ?_)
    | fail)
  have hb : Below W1.heap.size W1 (W1.alloc (.cells (Array.replicate n (.string ByteArray.empty)) 9)) := (Below.refl _ _).alloc (Nat.le_refl _) _
  have hN := hx0.out W1
  generalize hWg : W1.alloc (.cells (Array.replicate n (.string ByteArray.empty)) 9) = W2 at *
  clear hWg
  have hB2 := hid (below_up hb hB1.out)
  have hX2 := hid hN
  clear hb hB1 hN
  refine (hI.out _ _ hX2.out).mono ?_
  rintro e W3 ⟨A1, d1, rfl, -, -, -, -, hb⟩
  have hB3 := hid (below_up hb hB2.out)
  have hX3 := hid ((hX2.out.below hb).more hb.size)
  clear hb hB2 hX2
  clear hI hx0 hun hia harem hn0 hand hsum hsum2
  go_wp2_with fail
  go_loopw [10, 11, 12] (fun dn fr mn wr => ∃ d f m : Nat, dn = .int .i64 (d : Int) ∧ fr = .int .i64 (f : Int) ∧ mn = .int .i64 (m : Int) ∧ f < m ∧ d + m ≤ n ∧ d + dep f m = dep a n ∧ wr = W3) (fun _ _ mn _ => (intOf mn).toNat)
  case atStart => exact ⟨0, a, n, rfl, rfl, rfl, han, by omega, by omega, rfl⟩
  case round =>
    obtain ⟨d, f, m, rfl, rfl, rfl, hfm, hdm, hdep, rfl⟩ := hrel
    have hdep' := hid hdep
    clear hdep
    by_cases hm1 : 1 < m
    · have hm1i : (1 : Int) < (m : Int) := by omega
      have h0' := hid (show m ≤ 1 * 2 ^ m by rw [Nat.one_mul]; exact Nat.le_of_lt (Mth.lt_pow m))
      go_wp2_with fail
      go_loopw [13] (fun v wo => ∃ k g : Nat, 1 ≤ k ∧ k < m ∧ m ≤ k * 2 ^ g ∧ v = .int .i64 (k : Int) ∧ Mth.cutFrom g k m = Mth.cut m ∧ wo = wr) (fun v _ => m - (intOf v).toNat)
      case atStart => exact ⟨1, m, Nat.le_refl _, by omega, h0'.out, rfl, rfl, rfl⟩
      case round =>
        obtain ⟨k, g, hk, hkn, hf, rfl, hc, rfl⟩ := hrel
        have hw := IntWalk.i64_in (2 * (k : Int)) (by omega)
        have hw2 := IntWalk.i64_in ((k : Int) * 2) (by omega)
        have hc' := hid hc
        have hf' := hid hf
        clear hc hf
        by_cases hlt : 2 * k < m
        · have hlt' : 2 * (k : Int) < (m : Int) := by omega
          go_wp2_with fail
          go_roundw
          case rel =>
            obtain ⟨g', rfl⟩ : ∃ g', g = g' + 1 := ⟨g - 1, by have := hf'.out; cases g with | zero => (simp at this; omega) | succ g => rfl⟩
            have hc := hc'.out
            rw [cut_pow, if_pos hlt] at hc
            have hf := hf'.out
            rw [Nat.pow_succ] at hf
            refine ⟨2 * k, g', by omega, hlt, ?_, by go_num, hc, by trivial⟩
            have e : 2 * k * 2 ^ g' = k * (2 ^ g' * 2) := by rw [Nat.mul_comm 2 k, Nat.mul_assoc, Nat.mul_comm 2]
            rw [e]
            exact hf
          case measure => simp [intOf]; omega
        · have hlt' : ¬ 2 * (k : Int) < (m : Int) := by omega
          have hcut : Mth.cut m = k := by
            have hc := hc'.out
            rw [← hc]
            cases g with
            | zero => rfl
            | succ g => rw [cut_pow, if_neg hlt]
          have hd2 := dep_two f m (by omega)
          rw [hcut] at hd2
          have hd2' := hid hd2
          have hdd := IntWalk.i64_in ((d : Int) + 1) (by omega)
          clear hc' hf' hcut hd2
          by_cases hfk : f < k
          · have hfki : (f : Int) < (k : Int) := by omega
            go_wp2_with fail
            go_roundw
            case rel =>
              have hd2 := hd2'.out
              have hdep := hdep'.out
              rw [if_pos hfk] at hd2
              exact ⟨d + 1, f, k, by go_num, rfl, rfl, hfk, by omega, by omega, by trivial⟩
            case measure => simp [intOf]; omega
          · have hfki : ¬ (f : Int) < (k : Int) := by omega
            have hs1 := IntWalk.i64_in ((f : Int) - (k : Int)) (by omega)
            have hs2 := IntWalk.i64_in ((m : Int) - (k : Int)) (by omega)
            go_wp2_with fail
            go_roundw
            case rel =>
              have hd2 := hd2'.out
              have hdep := hdep'.out
              rw [if_neg hfk] at hd2
              exact ⟨d + 1, f - k, m - k, by go_num, by congr 1; omega, by congr 1; omega, by omega, by omega, by omega, by trivial⟩
            case measure => simp [intOf]; omega
    · have hm1i : ¬ (1 : Int) < (m : Int) := by omega
      have hdone : dep a n = d := by have h := hdep'.out; rw [dep_one f m (by omega)] at h; omega
      rw [hdone]
      clear hdep' hdone
      go_wp2_with fail
      refine (hC.out _ _ n hn1 (Nat.le_refl _) hX3.out).mono ?_
      rintro e W4 ⟨A2, d2, rfl, -, -, -, -, hb⟩
      rw [hall.out]
      have hB4 := hid (below_up hb hB3.out)
      have hX4 := hid ((hX3.out.below hb).more hb.size)
      clear hb hB3 hX3
      go_wp2_with fail
      go_loopw [16] (fun v wr => ∃ k b : Nat, k = 2 ^ b ∧ k ≤ n ∧ v = .int .i64 (k : Int) ∧ wr = W4) (fun v _ => n - (intOf v).toNat)
      case atStart => exact ⟨1, 0, rfl, hn1, rfl, rfl⟩
      case round =>
        obtain ⟨k, b, hkb, hkn, rfl, rfl⟩ := hrel
        have hk1 : 1 ≤ k := by rw [hkb]; exact Nat.pow_pos (by decide)
        have hkb' := hid hkb
        clear hkb
        have hw := IntWalk.i64_in (2 * (k : Int)) (by omega)
        by_cases hlt : 2 * k ≤ n
        · have hlt' : 2 * (k : Int) ≤ (n : Int) := by omega
          go_wp2_with fail
          go_roundw
          case rel => exact ⟨2 * k, b + 1, by rw [Nat.pow_succ, hkb'.out, Nat.mul_comm], hlt, by go_num, by trivial⟩
          case measure => simp [intOf]; omega
        · have hlt' : ¬ 2 * (k : Int) ≤ (n : Int) := by omega
          go_wp2_with fail
          refine (hC.out _ _ k hk1 hkn hX4.out).mono ?_
          rintro e W5 ⟨A3, d3, rfl, -, -, -, -, hb⟩
          have hB5 := hid (below_up hb hB4.out)
          clear hb
          by_cases hkn' : k = n
          · subst hkn'
            rw [hall.out]
            go_wp2_with (go_at_call 25; refine (errNum_any _ _).mono ?_; rintro e w' ⟨rfl, rfl⟩)
            go_ret
            exact ⟨rfl, hB5.out⟩
          · have hkl : k < n := by omega
            have hkli : (k : Int) < (n : Int) := by omega
            have hkne : ((k : Int) == (n : Int)) = false := by rw [beq_eq_false_iff_ne]; omega
            rw [hhalf.out k b (by omega) hkb'.out hkl (by omega)]
            go_wp2_with (go_at_call 25; refine (errNum_any _ _).mono ?_; rintro e w' ⟨rfl, rfl⟩)
            go_ret
            exact ⟨rfl, hB5.out⟩

end Go.Proofs.Ytenfhmpjhbpkpaa
