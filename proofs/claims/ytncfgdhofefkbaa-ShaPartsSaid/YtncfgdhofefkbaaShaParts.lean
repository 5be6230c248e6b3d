/- The statement ShaParts: its walk. -/
import Derived.Test.YtncfgdhofefkbaaShaTwins
namespace Go.Proofs.Ytncfgdhofefkbaa
open Go.RowKit
attribute [local irreducible] Sha.compress Sha.blocks Sha.sha Sha.pad

theorem take_more (x : ByteArray) (p k : Nat) : x.data.toList.take p ++ (x.extract p (p + k)).data.toList = x.data.toList.take (p + k) := by
  rw [extract_list, Nat.add_sub_cancel_left, List.take_add]

theorem take_rest (x : ByteArray) (p : Nat) : x.data.toList.take p ++ (x.extract p x.size).data.toList = x.data.toList := by
  have hl := data_length x
  rw [extract_list, List.take_of_length_le (l := x.data.toList.drop p) (by rw [List.length_drop, hl]; omega), List.take_append_drop]

theorem take_extract (x : ByteArray) (p : Nat) : (x.extract 0 p).data.toList = x.data.toList.take p := by
  rw [extract_list, List.drop_zero, Nat.sub_zero]

set_option maxRecDepth 100000 in
set_option maxHeartbeats 1000000 in
theorem ShaParts_law {w : World} (s : ByteArray) (hr : s.size ≤ 140737488351232) (A : Option Addr) (n c : Nat) (zs : List Int) (hz : IntsIn w A n c zs) :
    Calls Try.prog 4 #[.string s, .slice A n c] w fun e w' => e = .returned (.bool true) ∧ Below w.heap.size w w' := by
  obtain ⟨hI0, hnc, hc8, -, -⟩ := hz
  have hI := hid hI0
  clear hI0
  have hl0 := hid (data_length s)
  go_enter Try.func4, Try.ntmps4
  go_wp2_with fail
  refine (awake1_any _).mono ?_
  rintro e W1 ⟨rfl, b1⟩
  go_wp2_with fail
  refine (One.new (w0 := w) b1).mono ?_
  rintro e W2 ⟨a, rfl, h2⟩
  go_wp2_with fail
  refine h2.new2.mono ?_
  rintro e W3 ⟨b, rfl, h3⟩
  have h3' := hid h3
  clear b1 h2 h3
  go_wp2_with fail
  go_loopw [7, 8] (fun v i wr => ∃ j p : Nat, j ≤ n ∧ j ≤ 60 ∧ p ≤ s.size ∧ i = .int .i64 (j : Int) ∧ v = .int .i64 (p : Int) ∧ Two w wr a b (s.data.toList.take p) (List.replicate j 120)) (fun _ i _ => n - (intOf i).toNat)
  case atStart => exact ⟨0, 0, Nat.zero_le _, by omega, Nat.zero_le _, rfl, rfl, h3'.out⟩
  case round =>
    obtain ⟨j, p, hj, hj60, hp, rfl, rfl, hq⟩ := hrel
    by_cases hlt : j < n ∧ j < 60
    · obtain ⟨hlt, hlt60⟩ := hlt
      have hq' := hid hq
      obtain ⟨A1, rfl, hB, hcell⟩ := (hI.out.below hq.bl).get hlt
      clear hq
      generalize zs.getD j 0 = x at *
      have hand : 0 ≤ bits .and .i64 x 63 ∧ bits .and .i64 x 63 ≤ 63 := and_bd x 63 (by omega)
      obtain ⟨r, hr7, hr8⟩ : ∃ r : Nat, bits .and .i64 x 63 = (r : Int) ∧ r ≤ 63 := ⟨(bits .and .i64 x 63).toNat, by omega, by omega⟩
      obtain ⟨K, hK, hKs, hK63⟩ : ∃ K : Nat, min ((s.size : Int) - (p : Int)) (r : Int) = (K : Int) ∧ p + K ≤ s.size ∧ K ≤ 63 := ⟨(min ((s.size : Int) - (p : Int)) (r : Int)).toNat, by omega, by omega, by omega⟩
      have s1 := IntWalk.i64_in ((s.size : Int) - (p : Int)) (by omega)
      have s2 := IntWalk.i64_in ((p : Int) + (K : Int)) (by omega)
      have p1 : (0 : Int) ≤ (p : Int) + (K : Int) := by omega
      have p2 : (p : Int) ≤ (p : Int) + (K : Int) := by omega
      have p3 : (p : Int) + (K : Int) ≤ (s.size : Int) := by omega
      have n1 : ((p : Int) + (K : Int)).toNat = p + K := by omega
      have l1 : (j : Int) < (n : Int) := by omega
      have l2 : (j : Int) < 60 := by omega
      have htk := hid (take_more s p K)
      have hez := extract_size s p K hKs
      obtain ⟨X, hX⟩ : ∃ X, s.extract p (p + K) = X := ⟨_, rfl⟩
      rw [hX] at htk hez
      obtain ⟨S1, hS1⟩ : ∃ S1, s.extract 0 (p + K) = S1 := ⟨_, rfl⟩
      have hS1l := take_extract s (p + K)
      rw [hS1] at hS1l
      have hS1l' := hid hS1l
      have hS1z : S1.size = p + K := by rw [← hS1, ByteArray.size_extract]; omega
      have hS1z' := hid hS1z
      have hez' := hid hez
      have hcell' := hid hcell
      clear hand hS1l hS1z hez
      have hne := hash_neq (s.data.toList.take (p + K)) (s.data.toList.take (p + K))
      have hgd := fun op x y => hash_guard op x y (s.data.toList.take (p + K)) (s.data.toList.take (p + K))
      rw [beq_self_eq_true] at hne
      have hlT : (s.data.toList.take (p + K)).length = p + K := by rw [List.length_take, hl0.out]; omega
      have hlp : (s.data.toList.take p).length = p := by rw [List.length_take, hl0.out]; omega
      have hpre := hid (htk.out)
      clear htk
      generalize hTT : s.data.toList.take (p + K) = T at *
      have hTT' := hid hTT
      clear hTT
      have hlT' := hid hlT
      have hlI : ((T.length : Nat) : Int) = (p : Int) + (K : Int) := by omega
      have hlp' := hid hlp
      clear hlT hlp hcell
      have hcell := hcell'.out
      go_wp2_with fail
      refine (hq'.out.write X (by rw [hlp'.out, hez'.out]; omega) T hpre.out).mono ?_
      rintro e W4 ⟨rfl, h4⟩
      have h4' := hid h4
      clear h4
      go_wp2_with fail
      refine (h4'.out.write2 ⟨#[120]⟩ (by rw [List.length_replicate]; show j + 1 < _; omega) (List.replicate (j + 1) 120) (by rw [List.replicate_succ'])).mono ?_
      rintro e W5 ⟨rfl, h5⟩
      have h5' := hid h5
      clear h5
      go_wp2_with fail
      go_region_held3 (fun w' => Two w w' a b T (List.replicate (j + 1) 120)) (first | assumption | exact h5'.out.drew | exact Two.up (by assumption) (by assumption))
        (first
          | (go_at_call 13; refine (dsum_any a _ _ (Two.da (by assumption)) (by rw [hlT'.out]; omega)).mono ?_; rintro e w' ⟨rfl, hb⟩)
          | (go_at_call 12; refine (len_any a _ _ (Two.da (by assumption))).mono ?_; rintro e w' ⟨rfl, rfl⟩)
          | (go_at_call 15; refine (sum_any S1 _ (by rw [hS1z'.out]; omega)).mono ?_; rw [hS1l'.out]; rintro e w' ⟨rfl, hb⟩))
      all_goals
        rename_i hHeld
        have hq6 := hid hHeld
        clear hHeld
        go_wp2_with fail
        go_roundw
        case rel => exact ⟨j + 1, p + K, by omega, by omega, hKs, by go_num, by go_num, by rw [hTT'.out]; exact hq6.out⟩
        case measure => simp [intOf]; omega
    · have hq' := hid hq
      clear hq
      obtain ⟨X, hX⟩ : ∃ X, s.extract p s.size = X := ⟨_, rfl⟩
      have hXz : X.size = s.size - p := by rw [← hX, ByteArray.size_extract]; omega
      have hall := take_rest s p
      rw [hX] at hall
      have hall' := hid hall
      have hXz' := hid hXz
      have hlp : (s.data.toList.take p).length = p := by rw [List.length_take, hl0.out]; omega
      have hlp' := hid hlp
      have heq := hash_same s.data.toList
      have hgd := fun op x y => hash_guard op x y s.data.toList s.data.toList
      have hp3 : (p : Int) ≤ (s.size : Int) := by omega
      have hl1 : ((s.data.toList.length : Nat) : Int) = (s.size : Int) := by rw [hl0.out]
      clear hall hXz hlp
      by_cases hn : j < n
      · obtain rfl : j = 60 := by omega
        go_wp2_with fail
        refine (hq'.out.write X (by rw [hlp'.out, hXz'.out]; omega) s.data.toList hall'.out).mono ?_
        rintro e W6 ⟨rfl, h6⟩
        have hq3 := hid h6
        clear h6
        go_wp2_with fail
        refine (dsum_any a _ _ hq3.out.da (by rw [hl0.out]; omega)).mono ?_
        rintro e W7 ⟨rfl, hb7⟩
        have hq4 := hid (hq3.out.up hb7)
        clear hb7
        go_wp2_with fail
        refine (sum_any s _ (by omega)).mono ?_
        rintro e W8 ⟨rfl, hb8⟩
        have hq5 := hid (hq4.out.up hb8)
        clear hb8
        go_wp2_with fail
        refine (len_any a _ _ hq5.out.da).mono ?_
        rintro e w9 ⟨rfl, rfl⟩
        go_wp2
        go_ret
        exact ⟨rfl, hq5.out.bl⟩
      · go_wp2_with fail
        refine (hq'.out.write X (by rw [hlp'.out, hXz'.out]; omega) s.data.toList hall'.out).mono ?_
        rintro e W6 ⟨rfl, h6⟩
        have hq3 := hid h6
        clear h6
        go_wp2_with fail
        refine (dsum_any a _ _ hq3.out.da (by rw [hl0.out]; omega)).mono ?_
        rintro e W7 ⟨rfl, hb7⟩
        have hq4 := hid (hq3.out.up hb7)
        clear hb7
        go_wp2_with fail
        refine (sum_any s _ (by omega)).mono ?_
        rintro e W8 ⟨rfl, hb8⟩
        have hq5 := hid (hq4.out.up hb8)
        clear hb8
        go_wp2_with fail
        refine (len_any a _ _ hq5.out.da).mono ?_
        rintro e w9 ⟨rfl, rfl⟩
        go_wp2
        go_ret
        exact ⟨rfl, hq5.out.bl⟩

end Go.Proofs.Ytncfgdhofefkbaa
