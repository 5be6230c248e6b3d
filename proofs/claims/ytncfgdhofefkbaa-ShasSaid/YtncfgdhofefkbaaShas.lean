/- The statement Shas: its walk. -/
import Derived.Test.YtncfgdhofefkbaaShaTwins
import Derived.Test.YtncfgdhofefkbaaTexts
namespace Go.Proofs.Ytncfgdhofefkbaa
open Go.RowKit
attribute [local irreducible] Sha.compress Sha.blocks Sha.sha Sha.pad

set_option maxRecDepth 100000 in
set_option maxHeartbeats 1000000 in
theorem Shas_law {w : World} (s : ByteArray) (hr : s.size ≤ 140737488351232) (A : Option Addr) (n c : Nat) (xs : List ByteArray) (hx : TextsIn w A n c xs) :
    Calls Try.prog 3 #[.string s, .slice A n c] w fun e w' => e = .returned (.bool true) ∧ Below w.heap.size w w' := by
  obtain ⟨hI0, -, hnm, -, hsm⟩ := hx
  have hI := hid hI0
  have hsm' := hid hsm
  have hnm' := hid hnm
  clear hI0 hsm hnm
  go_enter Try.func3, Try.ntmps3
  go_wp2_with fail
  refine (One.new (w0 := w) (Below.refl _ _)).mono ?_
  rintro e W2 ⟨a, rfl, h2⟩
  have h2' := hid h2
  clear h2
  go_wp2_with fail
  go_loopw [6, 7] (fun v i wr => ∃ (j : Nat) (T : ByteArray), j ≤ n ∧ j ≤ 40 ∧ T.size ≤ j * 140737488351232 ∧ i = .int .i64 (j : Int) ∧ v = .string T ∧ One w wr a T.data.toList) (fun _ i _ => n - (intOf i).toNat)
  case atStart => exact ⟨0, ByteArray.mk #[], Nat.zero_le _, by omega, Nat.zero_le _, rfl, rfl, h2'.out⟩
  case round =>
    obtain ⟨j, T, hj, hj40, hT, rfl, rfl, hq⟩ := hrel
    by_cases hlt : j < n ∧ j < 40
    · obtain ⟨hlt, hlt40⟩ := hlt
      have hq' := hid hq
      obtain ⟨p, rfl, hB, X, hXm, -, hcell0⟩ := hI.out.get hlt
      have hB' : (p.add j).block < w.heap.size := by rw [add_block]; exact hB
      have hcell := (hq.bl.cell hB').trans hcell0
      have hc0' := hid hcell0
      have hXs := hsm'.out X hXm
      have hab : T.size + X.size ≤ 9223372036854775807 := by omega
      have l1 : (j : Int) < (n : Int) := by omega
      have l2 : (j : Int) < 40 := by omega
      have hand : 0 ≤ bits .and .i64 (j : Int) 3 ∧ bits .and .i64 (j : Int) 3 ≤ 3 := and_bd (j : Int) 3 (by omega)
      have hTl := data_length T
      have hTl' := hid hTl
      clear hq hXm hTl hcell0
      go_wp2_with fail
      refine (hq'.out.write X (by rw [hTl'.out]; omega) (T ++ X).data.toList (by rw [ByteArray.data_append, Array.toList_append])).mono ?_
      rintro e W4 ⟨rfl, h4⟩
      have h4' := hid h4
      have hcell4 := (h4.bl.cell hB').trans hc0'.out
      clear h4
      have hTX : (T ++ X).size ≤ (j + 1) * 140737488351232 := by rw [ByteArray.size_append]; omega
      have hTX' := hid hTX
      have hlen : (((T ++ X).data.toList.length : Nat) : Int) = ((T ++ X).size : Int) := by rw [data_length]
      have hlen2 := data_length (T ++ X)
      have hlen2' := hid hlen2
      have hand' := hid hand
      clear hTX hlen2 hand
      generalize hTT : T ++ X = TX at *
      have hTT' := hid hTT
      have hne := hash_neq TX.data.toList TX.data.toList
      have hgd := fun op x y => hash_guard op x y TX.data.toList TX.data.toList
      rw [beq_self_eq_true] at hne
      obtain ⟨z, hz⟩ : ∃ z, bits .and .i64 (j : Int) 3 = z := ⟨_, rfl⟩
      by_cases hz0 : z = 0
      · subst hz0
        go_wp2_with fail
        refine (len_any a _ _ h4'.out.da).mono ?_
        rintro e w9 ⟨rfl, rfl⟩
        go_wp2_with fail
        refine (dsum_any a _ _ h4'.out.da (by rw [hlen2'.out]; have := hTX'.out; omega)).mono ?_
        rintro e W7 ⟨rfl, hb7⟩
        have hq4 := hid (h4'.out.up hb7)
        clear hb7
        go_wp2_with fail
        refine (rsha_any TX _ (by have := hTX'.out; omega)).mono ?_
        rintro e W8 ⟨rfl, hb8⟩
        have hq5 := hid (hq4.out.up hb8)
        clear hb8
        go_wp2_with fail
        go_roundw
        case rel => exact ⟨j + 1, TX, by omega, by omega, hTX'.out, by go_num, rfl, hq5.out⟩
        case measure => simp [intOf]; omega
      · have hzf : (z == 0) = false := by simpa using hz0
        go_wp2_with fail
        refine (len_any a _ _ h4'.out.da).mono ?_
        rintro e w9 ⟨rfl, rfl⟩
        go_wp2_with fail
        go_roundw
        case rel => exact ⟨j + 1, TX, by omega, by omega, hTX'.out, by go_num, rfl, h4'.out⟩
        case measure => simp [intOf]; omega
    · have hq' := hid hq
      have hg1 := hash_same s.data.toList
      have hg2 := hash_same T.data.toList
      have hk1 := fun op x y => hash_guard op x y s.data.toList s.data.toList
      have hk2 := fun op x y => hash_guard op x y T.data.toList T.data.toList
      have hTl := hid (data_length T)
      clear hq
      by_cases hn : j < n
      · obtain rfl : j = 40 := by omega
        go_wp2_with fail
        refine (sum_any s _ (by omega)).mono ?_
        rintro e W7 ⟨rfl, hb7⟩
        have hq4 := hid (hq'.out.up hb7)
        clear hb7
        go_wp2_with fail
        refine (rsha_any s _ (by omega)).mono ?_
        rintro e W8 ⟨rfl, hb8⟩
        have hq5 := hid (hq4.out.up hb8)
        clear hb8
        go_wp2_with fail
        refine (dsum_any a _ _ hq5.out.da (by rw [hTl.out]; omega)).mono ?_
        rintro e W9 ⟨rfl, hb9⟩
        have hq6 := hid (hq5.out.up hb9)
        clear hb9
        go_wp2_with fail
        refine (rsha_any T _ (by omega)).mono ?_
        rintro e W10 ⟨rfl, hb10⟩
        have hq7 := hid (hq6.out.up hb10)
        clear hb10
        go_wp2_with fail
        refine (awake1_any _).mono ?_
        rintro e W11 ⟨rfl, hb11⟩
        have hq8 := hid (hq7.out.up hb11)
        clear hb11
        go_wp2
        go_ret
        exact ⟨rfl, hq8.out.bl⟩
      · go_wp2_with fail
        refine (sum_any s _ (by omega)).mono ?_
        rintro e W7 ⟨rfl, hb7⟩
        have hq4 := hid (hq'.out.up hb7)
        clear hb7
        go_wp2_with fail
        refine (rsha_any s _ (by omega)).mono ?_
        rintro e W8 ⟨rfl, hb8⟩
        have hq5 := hid (hq4.out.up hb8)
        clear hb8
        go_wp2_with fail
        refine (dsum_any a _ _ hq5.out.da (by rw [hTl.out]; omega)).mono ?_
        rintro e W9 ⟨rfl, hb9⟩
        have hq6 := hid (hq5.out.up hb9)
        clear hb9
        go_wp2_with fail
        refine (rsha_any T _ (by omega)).mono ?_
        rintro e W10 ⟨rfl, hb10⟩
        have hq7 := hid (hq6.out.up hb10)
        clear hb10
        go_wp2_with fail
        refine (awake1_any _).mono ?_
        rintro e W11 ⟨rfl, hb11⟩
        have hq8 := hid (hq7.out.up hb11)
        clear hb11
        go_wp2
        go_ret
        exact ⟨rfl, hq8.out.bl⟩

end Go.Proofs.Ytncfgdhofefkbaa
