/- The statement WireLong: its walk. -/
import Derived.Test.YtlbmlnefglgonabAwake3
namespace Go.Proofs.Ytlbmlnefglgonab
open Go.RowKit

theorem and127 (x : Int) : ∃ k : Nat, bits .and .i64 x 127 = (k : Int) ∧ k ≤ 127 := by
  refine ⟨((BitVec.ofInt 64 x &&& 127#64).toNat), ?_, ?_⟩
  · show IntKind.i64.wrap ((BitVec.ofInt 64 x &&& BitVec.ofInt 64 127).toNat : Int) = _
    have h127 : BitVec.ofInt 64 127 = 127#64 := by decide
    rw [h127]
    have : (BitVec.ofInt 64 x &&& 127#64).toNat ≤ 127 := by
      rw [BitVec.toNat_and]
      exact Nat.and_le_right
    exact IntWalk.i64_in _ (by omega)
  · rw [BitVec.toNat_and]
    exact Nat.and_le_right

theorem zeros_piece (m : Nat) (h : m ≤ 127) : textPiece (zeroS m) 1 = some (be 1 m ++ zeroS m) := by
  unfold textPiece
  rw [if_pos]
  · simp [zeroS_size]
  · rw [zeroS_size]
    exact fitsB_mk (by decide) (by omega) (by show (m : Int) < 256; omega)

set_option maxRecDepth 100000 in
set_option maxHeartbeats 8000000 in
theorem WireLong_law (a : Int) (_wa : (Lit.int .i64 a).wf = true) (b : Int) (_wb : (Lit.int .i64 b).wf = true) (w : World) :
    Calls Try.prog 6 #[.int .i64 a, .int .i64 b] w fun e w' => e = .returned (.bool true) ∧ Below w.heap.size w w' := by
  obtain ⟨i0, hi, hz0, hzz, hby⟩ := info_parts Try.infoU8
  obtain ⟨k, hk, hk7⟩ := and127 a
  obtain ⟨m, hm, hm7⟩ := and127 b
  obtain ⟨n1, hn1⟩ : ∃ n1, n1 = 65532 - k := ⟨_, rfl⟩
  have hn1' := hid hn1
  obtain ⟨p1, hp1, hzp1⟩ : ∃ p1, addPiece ByteArray.empty (textPiece (zeroS n1) 4) = (p1, 0) ∧ p1.size = 65536 - k := by
    refine ⟨be 4 n1 ++ zeroS n1, ?_, ?_⟩
    · have e : textPiece (zeroS n1) 4 = some (be 4 n1 ++ zeroS n1) := by
        unfold textPiece
        rw [if_pos]
        · rw [zeroS_size]; rfl
        · rw [zeroS_size]
          exact fitsB_mk (by decide) (by omega) (by show (n1 : Int) < 4294967296; omega)
      rw [e, addPiece_fits, empty_append]
      rw [size_append, be_size, zeroS_size]
      show 0 + _ ≤ _
      omega
    · rw [size_append, be_size, zeroS_size]; omega
  have hlong := hid (zeroS_size n1)
  obtain ⟨z1, hz1⟩ : ∃ z, zeroS n1 = z := ⟨_, rfl⟩
  have hz1' := hid hz1
  rw [hz1] at hp1 hlong
  clear hz1
  have hp1' := hid hp1
  clear hp1 hn1
  by_cases hk4 : 4 ≤ k
  · skip
    obtain ⟨p2, hp2, hzp2⟩ : ∃ p2, addPiece p1 (numPiece 1 4) = (p2, 0) ∧ p2.size = 65540 - k := by
      refine ⟨p1 ++ be 4 1, ?_, ?_⟩
      · exact addPiece_fits (by rw [be_size]; omega)
      · rw [size_append, be_size]; omega
    by_cases hmk : m + 5 ≤ k
    ·   skip
        obtain ⟨p3, hp3, hzp3⟩ : ∃ p3, addPiece p2 (textPiece (zeroS m) 1) = (p3, 0) ∧ p3.size = p2.size + (m + 1) := by
          refine ⟨p2 ++ (be 1 m ++ zeroS m), ?_, ?_⟩
          · rw [zeros_piece m hm7]
            exact addPiece_fits (by rw [size_append, be_size, zeroS_size]; omega)
          · rw [size_append, size_append, be_size, zeroS_size]; omega
        have hlen : (p3.size : Int) = 65536 - ((k : Int) - 4 - (m : Int) - 1) := by omega
        have hs2 : p2.size ≤ 65536 := by omega
        have hsm := hid (zeroS_size m)
        obtain ⟨z2, hz2⟩ : ∃ z, zeroS m = z := ⟨_, rfl⟩
        have hz2' := hid hz2
        rw [hz2] at hp3 hsm
        clear hz2
        have hlen' := hid hlen
        have hs1 : p1.size ≤ 65536 := by omega
        have hs2' := hid hs2
        have hp2' := hid hp2
        have hp3' := hid hp3
        clear hp2 hp3 hlen hs2 hzp3 hzp2 hzp1
        go_enter Try.func6, Try.ntmps6
        go_wp2_with fail
        refine (awake3_any _).mono ?_
        rintro e W0 ⟨rfl, hB0⟩
        go_wp2_with fail
        refine (wireNewB _ w.heap.size hB0.size).mono ?_
        rintro e W1 ⟨rfl, h1, b1⟩
        go_wp2_with (at_make; refine wpList_make_zeros rfl _ _ 26 rfl 5 i0 Try.underlying26 hi hz0 hzz hby _ n1 rfl rfl (by have := hn1'.out; omega) (by have := hn1'.out; omega) z1 hz1'.out ?_; intro W2 hR2 b2; have hcv := run_convert_row (P := Try.prog) (w := W2) (e := 5) 26 9 Try.underlying26 Try.underlying5 Try.underlying9 hlong.out.symm hR2)
        refine (WTextB z1 (by rw [hlong.out]; have := hn1'.out; omega) 4 w.heap.size _ _ _ (h1.keep b2) (by decide) p1 0 hp1'.out).mono ?_
        rintro e W3 ⟨rfl, h3, b3⟩
        have hB3 := hid (hB0.trans ((b1.mono hB0.size).trans ((b2.mono h1.1).trans b3)))
        clear hcv hR2 b1 b2 b3 h1
        go_wp2_with fail
        refine (WNumB 1 4 _ _ _ _ h3 (by omega) _ _ hp2'.out).mono ?_
        rintro e W4 ⟨rfl, h4, b4⟩
        go_wp2_with (at_make; refine wpList_make_zeros rfl _ _ 26 rfl 5 i0 Try.underlying26 hi hz0 hzz hby _ m rfl rfl (by omega) (by omega) z2 hz2'.out ?_; intro W5 hR5 b5; have hcv := run_convert_row (P := Try.prog) (w := W5) (e := 5) 26 9 Try.underlying26 Try.underlying5 Try.underlying9 hsm.out.symm hR5)
        refine (WTextB z2 (by rw [hsm.out]; omega) 1 w.heap.size _ _ _ (h4.keep b5) hs2'.out _ _ hp3'.out).mono ?_
        rintro e W6 ⟨rfl, h6, b6⟩
        have hB6 := hid (hB3.out.trans (b4.trans ((b5.mono h4.1).trans b6)))
        clear hcv hR5 b4 b5 b6 h3 h4
        have q1 : decide ((4 : Int) ≤ (k : Int)) = true := by simp; omega
        have q2 : decide ((m : Int) + 1 ≤ (k : Int) - 4) = true := by simp; omega
        have hk4' := hid hk4
        have hmk' := hid hmk
        clear hk4 hmk
        go_wp2_with (first | (go_at_call 15; refine (errNum_any _ _).mono ?_; rintro e w' ⟨rfl, rfl⟩) | (go_at_call 21; refine (WAllB _ _ _ _ h6).mono ?_; rintro e w' ⟨rfl, rfl⟩))
        go_ret
        exact ⟨rbool (beq_iff_eq.2 hlen'.out), hB6.out⟩
    ·   skip
        have hp3 : addPiece p2 (textPiece (zeroS m) 1) = (p2, 302) := by
          rw [zeros_piece m hm7]
          exact addPiece_long (by rw [size_append, be_size, zeroS_size]; omega)
        have hlen : (p2.size : Int) = 65536 - ((k : Int) - 4) := by omega
        have hs2 : p2.size ≤ 65536 := by omega
        have hsm := hid (zeroS_size m)
        obtain ⟨z2, hz2⟩ : ∃ z, zeroS m = z := ⟨_, rfl⟩
        have hz2' := hid hz2
        rw [hz2] at hp3 hsm
        clear hz2
        have hlen' := hid hlen
        have hs1 : p1.size ≤ 65536 := by omega
        have hs2' := hid hs2
        have hp2' := hid hp2
        have hp3' := hid hp3
        clear hp2 hp3 hlen hs2 hzp2 hzp1
        go_enter Try.func6, Try.ntmps6
        go_wp2_with fail
        refine (awake3_any _).mono ?_
        rintro e W0 ⟨rfl, hB0⟩
        go_wp2_with fail
        refine (wireNewB _ w.heap.size hB0.size).mono ?_
        rintro e W1 ⟨rfl, h1, b1⟩
        go_wp2_with (at_make; refine wpList_make_zeros rfl _ _ 26 rfl 5 i0 Try.underlying26 hi hz0 hzz hby _ n1 rfl rfl (by have := hn1'.out; omega) (by have := hn1'.out; omega) z1 hz1'.out ?_; intro W2 hR2 b2; have hcv := run_convert_row (P := Try.prog) (w := W2) (e := 5) 26 9 Try.underlying26 Try.underlying5 Try.underlying9 hlong.out.symm hR2)
        refine (WTextB z1 (by rw [hlong.out]; have := hn1'.out; omega) 4 w.heap.size _ _ _ (h1.keep b2) (by decide) p1 0 hp1'.out).mono ?_
        rintro e W3 ⟨rfl, h3, b3⟩
        have hB3 := hid (hB0.trans ((b1.mono hB0.size).trans ((b2.mono h1.1).trans b3)))
        clear hcv hR2 b1 b2 b3 h1
        go_wp2_with fail
        refine (WNumB 1 4 _ _ _ _ h3 (by omega) _ _ hp2'.out).mono ?_
        rintro e W4 ⟨rfl, h4, b4⟩
        go_wp2_with (at_make; refine wpList_make_zeros rfl _ _ 26 rfl 5 i0 Try.underlying26 hi hz0 hzz hby _ m rfl rfl (by omega) (by omega) z2 hz2'.out ?_; intro W5 hR5 b5; have hcv := run_convert_row (P := Try.prog) (w := W5) (e := 5) 26 9 Try.underlying26 Try.underlying5 Try.underlying9 hsm.out.symm hR5)
        refine (WTextB z2 (by rw [hsm.out]; omega) 1 w.heap.size _ _ _ (h4.keep b5) hs2'.out _ _ hp3'.out).mono ?_
        rintro e W6 ⟨rfl, h6, b6⟩
        have hB6 := hid (hB3.out.trans (b4.trans ((b5.mono h4.1).trans b6)))
        clear hcv hR5 b4 b5 b6 h3 h4
        have q1 : decide ((4 : Int) ≤ (k : Int)) = true := by simp; omega
        have q2 : decide ((m : Int) + 1 ≤ (k : Int) - 4) = false := by simp; omega
        have hk4' := hid hk4
        have hmk' := hid hmk
        clear hk4 hmk
        go_wp2_with (first | (go_at_call 15; refine (errNum_any _ _).mono ?_; rintro e w' ⟨rfl, rfl⟩) | (go_at_call 21; refine (WAllB _ _ _ _ h6).mono ?_; rintro e w' ⟨rfl, rfl⟩))
        go_ret
        exact ⟨rbool (beq_iff_eq.2 hlen'.out), hB6.out⟩
  · skip
    have hp2 : addPiece p1 (numPiece 1 4) = (p1, 302) := addPiece_long (by rw [be_size]; omega)
    by_cases hmk : m + 1 ≤ k
    ·   skip
        obtain ⟨p3, hp3, hzp3⟩ : ∃ p3, addPiece p1 (textPiece (zeroS m) 1) = (p3, 0) ∧ p3.size = p1.size + (m + 1) := by
          refine ⟨p1 ++ (be 1 m ++ zeroS m), ?_, ?_⟩
          · rw [zeros_piece m hm7]
            exact addPiece_fits (by rw [size_append, be_size, zeroS_size]; omega)
          · rw [size_append, size_append, be_size, zeroS_size]; omega
        have hlen : (p3.size : Int) = 65536 - ((k : Int) - (m : Int) - 1) := by omega
        have hs2 : p1.size ≤ 65536 := by omega
        have hsm := hid (zeroS_size m)
        obtain ⟨z2, hz2⟩ : ∃ z, zeroS m = z := ⟨_, rfl⟩
        have hz2' := hid hz2
        rw [hz2] at hp3 hsm
        clear hz2
        have hlen' := hid hlen
        have hs1 : p1.size ≤ 65536 := by omega
        have hs2' := hid hs2
        have hp2' := hid hp2
        have hp3' := hid hp3
        clear hp2 hp3 hlen hs2 hzp3 hzp1
        go_enter Try.func6, Try.ntmps6
        go_wp2_with fail
        refine (awake3_any _).mono ?_
        rintro e W0 ⟨rfl, hB0⟩
        go_wp2_with fail
        refine (wireNewB _ w.heap.size hB0.size).mono ?_
        rintro e W1 ⟨rfl, h1, b1⟩
        go_wp2_with (at_make; refine wpList_make_zeros rfl _ _ 26 rfl 5 i0 Try.underlying26 hi hz0 hzz hby _ n1 rfl rfl (by have := hn1'.out; omega) (by have := hn1'.out; omega) z1 hz1'.out ?_; intro W2 hR2 b2; have hcv := run_convert_row (P := Try.prog) (w := W2) (e := 5) 26 9 Try.underlying26 Try.underlying5 Try.underlying9 hlong.out.symm hR2)
        refine (WTextB z1 (by rw [hlong.out]; have := hn1'.out; omega) 4 w.heap.size _ _ _ (h1.keep b2) (by decide) p1 0 hp1'.out).mono ?_
        rintro e W3 ⟨rfl, h3, b3⟩
        have hB3 := hid (hB0.trans ((b1.mono hB0.size).trans ((b2.mono h1.1).trans b3)))
        clear hcv hR2 b1 b2 b3 h1
        go_wp2_with fail
        refine (WNumB 1 4 _ _ _ _ h3 (by omega) _ _ hp2'.out).mono ?_
        rintro e W4 ⟨rfl, h4, b4⟩
        go_wp2_with (at_make; refine wpList_make_zeros rfl _ _ 26 rfl 5 i0 Try.underlying26 hi hz0 hzz hby _ m rfl rfl (by omega) (by omega) z2 hz2'.out ?_; intro W5 hR5 b5; have hcv := run_convert_row (P := Try.prog) (w := W5) (e := 5) 26 9 Try.underlying26 Try.underlying5 Try.underlying9 hsm.out.symm hR5)
        refine (WTextB z2 (by rw [hsm.out]; omega) 1 w.heap.size _ _ _ (h4.keep b5) hs2'.out _ _ hp3'.out).mono ?_
        rintro e W6 ⟨rfl, h6, b6⟩
        have hB6 := hid (hB3.out.trans (b4.trans ((b5.mono h4.1).trans b6)))
        clear hcv hR5 b4 b5 b6 h3 h4
        have q1 : decide ((4 : Int) ≤ (k : Int)) = false := by simp; omega
        have q2 : decide ((m : Int) + 1 ≤ (k : Int)) = true := by simp; omega
        have hk4' := hid hk4
        have hmk' := hid hmk
        clear hk4 hmk
        go_wp2_with (first | (go_at_call 15; refine (errNum_any _ _).mono ?_; rintro e w' ⟨rfl, rfl⟩) | (go_at_call 21; refine (WAllB _ _ _ _ h6).mono ?_; rintro e w' ⟨rfl, rfl⟩))
        go_ret
        exact ⟨rbool (beq_iff_eq.2 hlen'.out), hB6.out⟩
    ·   skip
        have hp3 : addPiece p1 (textPiece (zeroS m) 1) = (p1, 302) := by
          rw [zeros_piece m hm7]
          exact addPiece_long (by rw [size_append, be_size, zeroS_size]; omega)
        have hlen : (p1.size : Int) = 65536 - ((k : Int)) := by omega
        have hs2 : p1.size ≤ 65536 := by omega
        have hsm := hid (zeroS_size m)
        obtain ⟨z2, hz2⟩ : ∃ z, zeroS m = z := ⟨_, rfl⟩
        have hz2' := hid hz2
        rw [hz2] at hp3 hsm
        clear hz2
        have hlen' := hid hlen
        have hs1 : p1.size ≤ 65536 := by omega
        have hs2' := hid hs2
        have hp2' := hid hp2
        have hp3' := hid hp3
        clear hp2 hp3 hlen hs2 hzp1
        go_enter Try.func6, Try.ntmps6
        go_wp2_with fail
        refine (awake3_any _).mono ?_
        rintro e W0 ⟨rfl, hB0⟩
        go_wp2_with fail
        refine (wireNewB _ w.heap.size hB0.size).mono ?_
        rintro e W1 ⟨rfl, h1, b1⟩
        go_wp2_with (at_make; refine wpList_make_zeros rfl _ _ 26 rfl 5 i0 Try.underlying26 hi hz0 hzz hby _ n1 rfl rfl (by have := hn1'.out; omega) (by have := hn1'.out; omega) z1 hz1'.out ?_; intro W2 hR2 b2; have hcv := run_convert_row (P := Try.prog) (w := W2) (e := 5) 26 9 Try.underlying26 Try.underlying5 Try.underlying9 hlong.out.symm hR2)
        refine (WTextB z1 (by rw [hlong.out]; have := hn1'.out; omega) 4 w.heap.size _ _ _ (h1.keep b2) (by decide) p1 0 hp1'.out).mono ?_
        rintro e W3 ⟨rfl, h3, b3⟩
        have hB3 := hid (hB0.trans ((b1.mono hB0.size).trans ((b2.mono h1.1).trans b3)))
        clear hcv hR2 b1 b2 b3 h1
        go_wp2_with fail
        refine (WNumB 1 4 _ _ _ _ h3 (by omega) _ _ hp2'.out).mono ?_
        rintro e W4 ⟨rfl, h4, b4⟩
        go_wp2_with (at_make; refine wpList_make_zeros rfl _ _ 26 rfl 5 i0 Try.underlying26 hi hz0 hzz hby _ m rfl rfl (by omega) (by omega) z2 hz2'.out ?_; intro W5 hR5 b5; have hcv := run_convert_row (P := Try.prog) (w := W5) (e := 5) 26 9 Try.underlying26 Try.underlying5 Try.underlying9 hsm.out.symm hR5)
        refine (WTextB z2 (by rw [hsm.out]; omega) 1 w.heap.size _ _ _ (h4.keep b5) hs2'.out _ _ hp3'.out).mono ?_
        rintro e W6 ⟨rfl, h6, b6⟩
        have hB6 := hid (hB3.out.trans (b4.trans ((b5.mono h4.1).trans b6)))
        clear hcv hR5 b4 b5 b6 h3 h4
        have q1 : decide ((4 : Int) ≤ (k : Int)) = false := by simp; omega
        have q2 : decide ((m : Int) + 1 ≤ (k : Int)) = false := by simp; omega
        have hk4' := hid hk4
        have hmk' := hid hmk
        clear hk4 hmk
        go_wp2_with (first | (go_at_call 15; refine (errNum_any _ _).mono ?_; rintro e w' ⟨rfl, rfl⟩) | (go_at_call 21; refine (WAllB _ _ _ _ h6).mono ?_; rintro e w' ⟨rfl, rfl⟩))
        go_ret
        exact ⟨rbool (beq_iff_eq.2 hlen'.out), hB6.out⟩

end Go.Proofs.Ytlbmlnefglgonab
