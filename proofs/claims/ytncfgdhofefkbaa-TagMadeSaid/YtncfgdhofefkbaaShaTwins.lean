/- The statement ShaTwins: its walk. -/
import Derived.Test.YtncfgdhofefkbaaAwake1
namespace Go.Proofs.Ytncfgdhofefkbaa
open Go.RowKit
attribute [local irreducible] Sha.compress Sha.blocks Sha.sha Sha.pad

theorem and_bd (x : Int) (m : Nat) (hm : m < 9223372036854775808) : 0 ≤ bits .and .i64 x (m : Int) ∧ bits .and .i64 x (m : Int) ≤ m := by
  have e : bits .and .i64 x (m : Int) = IntKind.i64.wrap ((BitVec.ofInt 64 x &&& BitVec.ofInt 64 (m : Int)).toNat : Int) := rfl
  have h := Nat.and_le_right (n := (BitVec.ofInt 64 x).toNat) (m := m)
  rw [e, BitVec.ofInt_natCast, BitVec.toNat_and, BitVec.toNat_ofNat, Nat.mod_eq_of_lt (by omega), IntWalk.i64_in _ (by omega)]
  omega

set_option maxRecDepth 100000 in
set_option maxHeartbeats 1000000 in
theorem ShaTwins_law {w : World} (s : ByteArray) (hr : s.size ≤ 140737488351232) (at' : Int) (_ : (Lit.int .i64 at').wf = true) (times : Int) (_ : (Lit.int .i64 times).wf = true) :
    Calls Try.prog 6 #[.string s, .int .i64 at', .int .i64 times] w fun e w' => e = .returned (.bool true) ∧ Below w.heap.size w w' := by
  have hand : 0 ≤ bits .and .i64 times 7 ∧ bits .and .i64 times 7 ≤ 7 := and_bd times 7 (by omega)
  obtain ⟨r, hr7, hr8⟩ : ∃ r : Nat, bits .and .i64 times 7 = (r : Int) ∧ r ≤ 7 := ⟨(bits .and .i64 times 7).toNat, by omega, by omega⟩
  obtain ⟨K, hk1, hkl⟩ : ∃ K : Nat, (IntKind.u64.wrap at').tmod ((s.size : Int) + 1) = (K : Int) ∧ K ≤ s.size := by
    have e : IntKind.u64.wrap at' = at' % 18446744073709551616 := rfl
    rw [e, Int.tmod_eq_emod_of_nonneg (by omega)]
    have n1 := Int.emod_nonneg (at' % 18446744073709551616) (b := (s.size : Int) + 1) (by omega)
    have n2 := Int.emod_lt_of_pos (at' % 18446744073709551616) (b := (s.size : Int) + 1) (by omega)
    exact ⟨(at' % 18446744073709551616 % ((s.size : Int) + 1)).toNat, by omega, by omega⟩
  have hk2 : wrap64 (K : Int) = (K : Int) := IntWalk.wrap64_in _ (by omega)
  have hk3 : (K : Int) ≤ (s.size : Int) := by omega
  obtain ⟨S1, hS1⟩ : ∃ S1, s.extract 0 K = S1 := ⟨_, rfl⟩
  obtain ⟨S2, hS2⟩ : ∃ S2, s.extract K s.size = S2 := ⟨_, rfl⟩
  have hz1 : S1.size = K := by rw [← hS1, ByteArray.size_extract]; omega
  have hz2 : S2.size = s.size - K := by rw [← hS2, ByteArray.size_extract]; omega
  have hl1 := data_length S1
  have hl2 := data_length S2
  have hl0 := data_length s
  have hj : S1.data.toList ++ S2.data.toList = s.data.toList := by
    rw [← hS1, ← hS2, extract_list, extract_list, List.drop_zero, Nat.sub_zero, List.take_of_length_le (l := s.data.toList.drop K) (by rw [List.length_drop, hl0]; omega), List.take_append_drop]
  have hj' := hid hj
  have hn1 : S1.data.toList.length < 1152921504606846976 := by omega
  have hn0 : s.data.toList.length < 1152921504606846976 := by omega
  have hn1' := hid hn1
  have hn0' := hid hn0
  clear hj hand hn1 hn0
  have s1 := IntWalk.i64_in ((s.size : Int) + 1) (by omega)
  go_enter Try.func6, Try.ntmps6
  go_wp2_with fail
  refine (awake1_any _).mono ?_
  rintro e W1 ⟨rfl, b1⟩
  go_wp2_with fail
  refine (One.new (w0 := w) b1).mono ?_
  rintro e W2 ⟨a, rfl, h2⟩
  go_wp2_with fail
  refine h2.new2.mono ?_
  rintro e W3 ⟨b, rfl, h3⟩
  go_wp2_with fail
  refine (h3.write s (by simp; omega) s.data.toList (List.nil_append _)).mono ?_
  rintro e W4 ⟨rfl, h4⟩
  go_wp2_with fail
  refine (h4.write2 S1 (by simp; omega) S1.data.toList (List.nil_append _)).mono ?_
  rintro e W5 ⟨rfl, h5⟩
  have h5' := hid h5
  have hz2' := hid hz2
  clear h2 h3 h4 h5 hl0 hl1 hl2 hz2
  go_wp2_with fail
  go_loopw [10] (fun i wr => ∃ k : Nat, k ≤ r ∧ i = .int .i64 (k : Int) ∧ Two w wr a b s.data.toList S1.data.toList) (fun i _ => r - (intOf i).toNat)
  case atStart => exact ⟨0, Nat.zero_le _, rfl, h5'.out⟩
  case round =>
    obtain ⟨k, hk, rfl, hq⟩ := hrel
    by_cases hlt : k < r
    · have hq' := hid hq
      have hne := hash_neq S1.data.toList S1.data.toList
      have hgd := fun op x y => hash_guard op x y S1.data.toList S1.data.toList
      rw [beq_self_eq_true] at hne
      clear hq
      go_wp2_with fail
      go_region_held3 (fun w' => Two w w' a b s.data.toList S1.data.toList) (first | assumption | exact hq'.out.drew | exact Two.up (by assumption) (by assumption))
        (first
          | (go_at_call 13; refine (dsum_any b _ _ (Two.db (by assumption)) hn1'.out).mono ?_; rintro e w' ⟨rfl, hb⟩)
          | (go_at_call 15; refine (sum_any S1 _ (by omega)).mono ?_; rintro e w' ⟨rfl, hb⟩))
      all_goals
        rename_i hHeld
        have hq2 := hid hHeld
        clear hHeld
        go_wp2_with fail
        refine (hq2.out.write2 ⟨#[]⟩ (by show S1.data.toList.length + 0 < _; have := hn1'.out; omega) S1.data.toList (List.append_nil _)).mono ?_
        rintro e W6 ⟨rfl, h6⟩
        have hq3 := hid h6
        clear h6
        go_wp2_with fail
        go_roundw
        case rel => exact ⟨k + 1, by omega, by go_num, hq3.out⟩
        case measure => simp [intOf]; omega
    · have hq' := hid hq
      have hgd := fun op x y => hash_guard op x y s.data.toList s.data.toList
      have heq := hash_same s.data.toList
      clear hq
      go_wp2_with fail
      refine (hq'.out.write2 S2 (by rw [data_length, hz1, hz2'.out]; omega) s.data.toList hj'.out).mono ?_
      rintro e W6 ⟨rfl, h6⟩
      have hq3 := hid h6
      clear h6
      go_wp2_with fail
      refine (dsum_any a _ _ hq3.out.da hn0'.out).mono ?_
      rintro e W7 ⟨rfl, hb7⟩
      have hq4 := hid (hq3.out.up hb7)
      clear hb7
      go_wp2_with fail
      refine (dsum_any b _ _ hq4.out.db hn0'.out).mono ?_
      rintro e W8 ⟨rfl, hb8⟩
      have hq5 := hid (hq4.out.up hb8)
      clear hb8
      go_wp2_with fail
      refine (len_any a _ _ hq5.out.da).mono ?_
      rintro e w9 ⟨rfl, rfl⟩
      go_wp2_with fail
      refine (len_any b _ _ hq5.out.db).mono ?_
      rintro e w9 ⟨rfl, rfl⟩
      go_wp2
      go_ret
      exact ⟨rfl, hq5.out.bl⟩

end Go.Proofs.Ytncfgdhofefkbaa
