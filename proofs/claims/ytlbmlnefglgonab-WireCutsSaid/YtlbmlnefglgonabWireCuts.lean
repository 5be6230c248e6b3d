/- The statement WireCuts: its walk. -/
import Derived.Test.YtlbmlnefglgonabAwake3
import Derived.Test.YtlbmlnefglgonabWireH2
import Derived.Test.YtlbmlnefglgonabRefBe
namespace Go.Proofs.Ytlbmlnefglgonab
open Go.RowKit

theorem RHashCutB (B g : Nat) (s : ByteArray) (hs : s.size < 32) (w : World) (h : RdB w B g s) :
    Calls Try.prog 29 #[.pointer (some ⟨g, 0, none⟩)] w fun e w' => e = .returned (.tuple #[.agg z32, .int .i64 300]) ∧ RdB w' B g s ∧ Below B w w' :=
  (RHash_cut g s hs w h.2.2).mono fun e w' ⟨he, h1, h2⟩ => ⟨he, rdB_after h.1 h.2.1 h1 h2⟩

theorem tmod3 (size : Int) : (IntKind.u64.wrap size).tmod 3 = 0 ∨ (IntKind.u64.wrap size).tmod 3 = 1 ∨ (IntKind.u64.wrap size).tmod 3 = 2 := by
  have e : IntKind.u64.wrap size = size % 18446744073709551616 := rfl
  rw [e]
  have h0 : 0 ≤ size % 18446744073709551616 := by omega
  rw [Int.tmod_eq_emod_of_nonneg h0]
  omega

theorem cut_text (k m : Nat) (s : ByteArray) (hk : isSizeB (k : Int) = true) (hm : m ≤ s.size) (hm2 : m < 256) (i : Nat) (hi : i < k + m) :
    readText ((be k m ++ s).extract 0 i) k = (⟨#[]⟩, 300, (be k m ++ s).extract 0 i) := by
  have h4 := size_lt hk
  have hsz : ((be k m ++ s).extract 0 i).size = i := by
    rw [extract_size, size_append, be_size]
    omega
  by_cases hik : i < k
  · have h1 := readNum_cut (s := (be k m ++ s).extract 0 i) hk (by rw [hsz]; omega)
    exact readText_err h1 (by decide)
  · have e : (be k m ++ s).extract 0 i = be k m ++ s.extract 0 (i - k) := by
      apply bytes_ext
      rw [ByteArray.data_extract, Array.toList_extract, data_append, data_append, ByteArray.data_extract, Array.toList_extract]
      simp only [List.extract, List.drop_zero, Nat.sub_zero]
      have hl : (be k m).data.toList.length = k := by rw [data_length, be_size]
      rw [List.take_append, hl, List.take_of_length_le (by omega)]
    rw [e]
    have hf : fitsB (m : Int) (k : Int) = true := fitsB_mk hk (by omega) (by
      rw [Int.toNat_natCast]
      rcases isSizeB_cases hk with h | h | h
      · obtain rfl : k = 1 := by omega
        show (m : Int) < 256
        omega
      · obtain rfl : k = 2 := by omega
        show (m : Int) < 65536
        omega
      · obtain rfl : k = 4 := by omega
        show (m : Int) < 4294967296
        omega)
    have h1 := readNum_back (m : Int) (k : Int) (s.extract 0 (i - k)) hf
    rw [Int.toNat_natCast, Int.toNat_natCast] at h1
    exact readText_cut h1 (by rw [extract_size]; omega)

set_option maxRecDepth 100000 in
set_option maxHeartbeats 4000000 in
theorem WireCuts_law (s : ByteArray) (hs : s.size ≤ 140737488351232) (size : Int) (_wx : (Lit.int .i64 size).wf = true) (w : World) :
    Calls Try.prog 8 #[.string s, .int .i64 size] w fun e w' => e = .returned (.bool true) ∧ Below w.heap.size w w' := by
  have hand := byte_and (s.size : Int) (by omega) (by omega)
  have hand2 : ((s.size : Int) % 256) = ((s.size % 256 : Nat) : Int) := by omega
  rw [hand2] at hand
  have hm : s.size % 256 ≤ s.size ∧ s.size % 256 < 256 := by omega
  generalize s.size % 256 = m at *
  obtain ⟨hm1, hm2⟩ := hm
  clear hand2
  obtain ⟨ih, hhi, hhz, hhs, hhb⟩ := info_parts Try.infoHashI
  rcases tmod3 size with hj | hj | hj
  · have hadd := fun w => run_string_add_sum (P := Try.prog) w (be 1 m) s (by rw [be_size]; omega)
    have hcut0 := fun i hi => cut_text 1 m s (by decide) hm1 hm2 i hi
    have hXs : (be 1 m ++ s).size = 1 + s.size := by rw [size_append, be_size]
    have c1 := hid (Be_any m 1 1 rfl (by omega) m rfl (by omega))
    generalize be 1 m ++ s = X at hadd hcut0 hXs
    generalize be 1 m = b at *
    have hXl : X.size ≤ 140737488355328 := by omega
    have hcut := hid hcut0
    clear hXs hcut0
    go_enter Try.func8, Try.ntmps8
    go_wp2_with fail
    refine (awake3_any _).mono ?_
    rintro e W0 ⟨rfl, hB0⟩
    go_wp2_with fail
    refine (c1.out _).mono ?_
    rintro e W1 ⟨rfl, hb1⟩
    have hB1 : Below w.heap.size w W1 := (hB0.alloc hB0.size _).trans (hb1.mono (by have := hB0.size; simp; omega))
    clear hb1 hB0
    go_wp2_with fail
    go_loopw [7] (fun i wr => ∃ j : Nat, i = .int .i64 j ∧ j ≤ X.size ∧ j ≤ 40 ∧ Below w.heap.size w wr) (fun i _ => 40 - (intOf i).toNat)
    case atStart => exact ⟨0, rfl, Nat.zero_le _, by omega, hB1⟩
    case round =>
      obtain ⟨j, rfl, hj1, hj2, hB⟩ := hrel
      have hB' := hid hB
      clear hB hB1
      by_cases hlt : j < X.size ∧ j < 40
      · obtain ⟨hlt1, hlt2⟩ := hlt
        have hY : (X.extract 0 j).size = j := by rw [extract_size]; omega
        obtain ⟨n, hn⟩ : ∃ n : Nat, min (j : Int) 31 = n := ⟨(min (j : Int) 31).toNat, by omega⟩
        have hn1 : n ≤ 31 ∧ n ≤ j := by omega
        obtain ⟨hn1, hn2⟩ := hn1
        have hZ : (X.extract 0 n).size = n := by rw [extract_size]; omega
        by_cases hjm : j < 1 + m
        ·
          have hjm' : decide ((j : Int) < 1 + m) = true := by simp; omega
          have ht := hid (hcut.out j hjm)
          skip
          clear hjm
          go_wp2_with fail
          refine (wireOpenB _ _ w.heap.size hB'.out.size).mono ?_
          rintro e W2 ⟨rfl, h2, b2⟩
          go_wp2_with fail
          refine (RTextB _ _ _ (by rw [extract_size]; omega) 1 _ h2 _ _ _ ht.out).mono ?_
          rintro e W3 ⟨rfl, h3, b3⟩
          have hB3 := hid (hB'.out.trans ((b2.mono hB'.out.size).trans b3))
          have hl3 := h3.1
          clear h2 b2 b3
          go_wp2_with (first | (go_at_call 15; refine (errNum_any _ _).mono ?_; rintro e w' ⟨rfl, rfl⟩) | (go_at_call 31; refine (RLeftB _ _ _ _ h3).mono ?_; rintro e w' ⟨rfl, rfl⟩))
          clear h3
          refine (wireOpenB _ _ w.heap.size hl3).mono ?_
          rintro e W4 ⟨rfl, h4, b4⟩
          go_wp2_with fail
          refine (RHashCutB _ _ _ (by rw [hZ]; omega) _ h4).mono ?_
          rintro e W5 ⟨rfl, h5, b5⟩
          have hB5 := hid (hB3.out.trans ((b4.mono hl3).trans b5))
          have h6 := h5.keep ((Below.refl _ _).alloc (Nat.le_refl _) (.cells z32 30))
          have hl5 := h5.1
          clear h4 h5 b4 b5 hB3 hB'
          go_wp2_with (first
            | ((with_reducible refine at_slot (some 12) ?_); refine wpList_alloc_row rfl 30 rfl ih _ hhi hhz z32 rfl ?_)
            | ((with_reducible refine at_slot none ?_); refine wpList_store_row rfl 30 (.tmp 12) (.tmp 80) rfl W5.heap.size z32 rfl rfl 30 z32 (heap_alloc_new _ _) (by rw [Try.infoHash]; rfl) rfl z32_hash.one ?_; rw [World.setRow_alloc_new])
            | (go_at_call 15; refine (errNum_any _ _).mono ?_; rintro e w' ⟨rfl, rfl⟩) | (go_at_call 31; refine (RLeftB _ _ _ _ h6).mono ?_; rintro e w' ⟨rfl, rfl⟩))
          go_roundw
          case rel => exact ⟨j + 1, by go_num, by omega, by omega, hB5.out.alloc hl5 _⟩
          case measure => simp [intOf]; omega
        ·
          have hjm' : decide ((j : Int) < 1 + m) = false := by simp; omega
          obtain ⟨x1, k1, l1, ht0⟩ : ∃ x k l, readText (X.extract 0 j) 1 = (x, k, l) := ⟨_, _, _, rfl⟩
          have ht := hid ht0
          clear hjm ht0
          go_wp2_with fail
          refine (wireOpenB _ _ w.heap.size hB'.out.size).mono ?_
          rintro e W2 ⟨rfl, h2, b2⟩
          go_wp2_with fail
          refine (RTextB _ _ _ (by rw [extract_size]; omega) 1 _ h2 _ _ _ ht.out).mono ?_
          rintro e W3 ⟨rfl, h3, b3⟩
          have hB3 := hid (hB'.out.trans ((b2.mono hB'.out.size).trans b3))
          have hl3 := h3.1
          clear h2 b2 b3
          go_wp2_with (first | (go_at_call 15; refine (errNum_any _ _).mono ?_; rintro e w' ⟨rfl, rfl⟩) | (go_at_call 31; refine (RLeftB _ _ _ _ h3).mono ?_; rintro e w' ⟨rfl, rfl⟩))
          clear h3
          refine (wireOpenB _ _ w.heap.size hl3).mono ?_
          rintro e W4 ⟨rfl, h4, b4⟩
          go_wp2_with fail
          refine (RHashCutB _ _ _ (by rw [hZ]; omega) _ h4).mono ?_
          rintro e W5 ⟨rfl, h5, b5⟩
          have hB5 := hid (hB3.out.trans ((b4.mono hl3).trans b5))
          have h6 := h5.keep ((Below.refl _ _).alloc (Nat.le_refl _) (.cells z32 30))
          have hl5 := h5.1
          clear h4 h5 b4 b5 hB3 hB'
          go_wp2_with (first
            | ((with_reducible refine at_slot (some 12) ?_); refine wpList_alloc_row rfl 30 rfl ih _ hhi hhz z32 rfl ?_)
            | ((with_reducible refine at_slot none ?_); refine wpList_store_row rfl 30 (.tmp 12) (.tmp 80) rfl W5.heap.size z32 rfl rfl 30 z32 (heap_alloc_new _ _) (by rw [Try.infoHash]; rfl) rfl z32_hash.one ?_; rw [World.setRow_alloc_new])
            | (go_at_call 15; refine (errNum_any _ _).mono ?_; rintro e w' ⟨rfl, rfl⟩) | (go_at_call 31; refine (RLeftB _ _ _ _ h6).mono ?_; rintro e w' ⟨rfl, rfl⟩))
          go_roundw
          case rel => exact ⟨j + 1, by go_num, by omega, by omega, hB5.out.alloc hl5 _⟩
          case measure => simp [intOf]; omega
      · have hge : ¬ (j < X.size ∧ j < 40) := hlt
        by_cases hlt1 : j < X.size
        · obtain rfl : j = 40 := by omega
          go_wp2
          go_ret
          exact ⟨rfl, hB'.out⟩
        · go_wp2
          go_ret
          exact ⟨rfl, hB'.out⟩
  · have hadd := fun w => run_string_add_sum (P := Try.prog) w (be 2 m) s (by rw [be_size]; omega)
    have hcut0 := fun i hi => cut_text 2 m s (by decide) hm1 hm2 i hi
    have hXs : (be 2 m ++ s).size = 2 + s.size := by rw [size_append, be_size]
    have c1 := hid (Be_any m 2 2 rfl (by omega) m rfl (by omega))
    generalize be 2 m ++ s = X at hadd hcut0 hXs
    generalize be 2 m = b at *
    have hXl : X.size ≤ 140737488355328 := by omega
    have hcut := hid hcut0
    clear hXs hcut0
    go_enter Try.func8, Try.ntmps8
    go_wp2_with fail
    refine (awake3_any _).mono ?_
    rintro e W0 ⟨rfl, hB0⟩
    go_wp2_with fail
    refine (c1.out _).mono ?_
    rintro e W1 ⟨rfl, hb1⟩
    have hB1 : Below w.heap.size w W1 := (hB0.alloc hB0.size _).trans (hb1.mono (by have := hB0.size; simp; omega))
    clear hb1 hB0
    go_wp2_with fail
    go_loopw [7] (fun i wr => ∃ j : Nat, i = .int .i64 j ∧ j ≤ X.size ∧ j ≤ 40 ∧ Below w.heap.size w wr) (fun i _ => 40 - (intOf i).toNat)
    case atStart => exact ⟨0, rfl, Nat.zero_le _, by omega, hB1⟩
    case round =>
      obtain ⟨j, rfl, hj1, hj2, hB⟩ := hrel
      have hB' := hid hB
      clear hB hB1
      by_cases hlt : j < X.size ∧ j < 40
      · obtain ⟨hlt1, hlt2⟩ := hlt
        have hY : (X.extract 0 j).size = j := by rw [extract_size]; omega
        obtain ⟨n, hn⟩ : ∃ n : Nat, min (j : Int) 31 = n := ⟨(min (j : Int) 31).toNat, by omega⟩
        have hn1 : n ≤ 31 ∧ n ≤ j := by omega
        obtain ⟨hn1, hn2⟩ := hn1
        have hZ : (X.extract 0 n).size = n := by rw [extract_size]; omega
        by_cases hjm : j < 2 + m
        ·
          have hjm' : decide ((j : Int) < 2 + m) = true := by simp; omega
          have ht := hid (hcut.out j hjm)
          skip
          clear hjm
          go_wp2_with fail
          refine (wireOpenB _ _ w.heap.size hB'.out.size).mono ?_
          rintro e W2 ⟨rfl, h2, b2⟩
          go_wp2_with fail
          refine (RTextB _ _ _ (by rw [extract_size]; omega) 2 _ h2 _ _ _ ht.out).mono ?_
          rintro e W3 ⟨rfl, h3, b3⟩
          have hB3 := hid (hB'.out.trans ((b2.mono hB'.out.size).trans b3))
          have hl3 := h3.1
          clear h2 b2 b3
          go_wp2_with (first | (go_at_call 15; refine (errNum_any _ _).mono ?_; rintro e w' ⟨rfl, rfl⟩) | (go_at_call 31; refine (RLeftB _ _ _ _ h3).mono ?_; rintro e w' ⟨rfl, rfl⟩))
          clear h3
          refine (wireOpenB _ _ w.heap.size hl3).mono ?_
          rintro e W4 ⟨rfl, h4, b4⟩
          go_wp2_with fail
          refine (RHashCutB _ _ _ (by rw [hZ]; omega) _ h4).mono ?_
          rintro e W5 ⟨rfl, h5, b5⟩
          have hB5 := hid (hB3.out.trans ((b4.mono hl3).trans b5))
          have h6 := h5.keep ((Below.refl _ _).alloc (Nat.le_refl _) (.cells z32 30))
          have hl5 := h5.1
          clear h4 h5 b4 b5 hB3 hB'
          go_wp2_with (first
            | ((with_reducible refine at_slot (some 12) ?_); refine wpList_alloc_row rfl 30 rfl ih _ hhi hhz z32 rfl ?_)
            | ((with_reducible refine at_slot none ?_); refine wpList_store_row rfl 30 (.tmp 12) (.tmp 80) rfl W5.heap.size z32 rfl rfl 30 z32 (heap_alloc_new _ _) (by rw [Try.infoHash]; rfl) rfl z32_hash.one ?_; rw [World.setRow_alloc_new])
            | (go_at_call 15; refine (errNum_any _ _).mono ?_; rintro e w' ⟨rfl, rfl⟩) | (go_at_call 31; refine (RLeftB _ _ _ _ h6).mono ?_; rintro e w' ⟨rfl, rfl⟩))
          go_roundw
          case rel => exact ⟨j + 1, by go_num, by omega, by omega, hB5.out.alloc hl5 _⟩
          case measure => simp [intOf]; omega
        ·
          have hjm' : decide ((j : Int) < 2 + m) = false := by simp; omega
          obtain ⟨x1, k1, l1, ht0⟩ : ∃ x k l, readText (X.extract 0 j) 2 = (x, k, l) := ⟨_, _, _, rfl⟩
          have ht := hid ht0
          clear hjm ht0
          go_wp2_with fail
          refine (wireOpenB _ _ w.heap.size hB'.out.size).mono ?_
          rintro e W2 ⟨rfl, h2, b2⟩
          go_wp2_with fail
          refine (RTextB _ _ _ (by rw [extract_size]; omega) 2 _ h2 _ _ _ ht.out).mono ?_
          rintro e W3 ⟨rfl, h3, b3⟩
          have hB3 := hid (hB'.out.trans ((b2.mono hB'.out.size).trans b3))
          have hl3 := h3.1
          clear h2 b2 b3
          go_wp2_with (first | (go_at_call 15; refine (errNum_any _ _).mono ?_; rintro e w' ⟨rfl, rfl⟩) | (go_at_call 31; refine (RLeftB _ _ _ _ h3).mono ?_; rintro e w' ⟨rfl, rfl⟩))
          clear h3
          refine (wireOpenB _ _ w.heap.size hl3).mono ?_
          rintro e W4 ⟨rfl, h4, b4⟩
          go_wp2_with fail
          refine (RHashCutB _ _ _ (by rw [hZ]; omega) _ h4).mono ?_
          rintro e W5 ⟨rfl, h5, b5⟩
          have hB5 := hid (hB3.out.trans ((b4.mono hl3).trans b5))
          have h6 := h5.keep ((Below.refl _ _).alloc (Nat.le_refl _) (.cells z32 30))
          have hl5 := h5.1
          clear h4 h5 b4 b5 hB3 hB'
          go_wp2_with (first
            | ((with_reducible refine at_slot (some 12) ?_); refine wpList_alloc_row rfl 30 rfl ih _ hhi hhz z32 rfl ?_)
            | ((with_reducible refine at_slot none ?_); refine wpList_store_row rfl 30 (.tmp 12) (.tmp 80) rfl W5.heap.size z32 rfl rfl 30 z32 (heap_alloc_new _ _) (by rw [Try.infoHash]; rfl) rfl z32_hash.one ?_; rw [World.setRow_alloc_new])
            | (go_at_call 15; refine (errNum_any _ _).mono ?_; rintro e w' ⟨rfl, rfl⟩) | (go_at_call 31; refine (RLeftB _ _ _ _ h6).mono ?_; rintro e w' ⟨rfl, rfl⟩))
          go_roundw
          case rel => exact ⟨j + 1, by go_num, by omega, by omega, hB5.out.alloc hl5 _⟩
          case measure => simp [intOf]; omega
      · have hge : ¬ (j < X.size ∧ j < 40) := hlt
        by_cases hlt1 : j < X.size
        · obtain rfl : j = 40 := by omega
          go_wp2
          go_ret
          exact ⟨rfl, hB'.out⟩
        · go_wp2
          go_ret
          exact ⟨rfl, hB'.out⟩
  · have hadd := fun w => run_string_add_sum (P := Try.prog) w (be 4 m) s (by rw [be_size]; omega)
    have hcut0 := fun i hi => cut_text 4 m s (by decide) hm1 hm2 i hi
    have hXs : (be 4 m ++ s).size = 4 + s.size := by rw [size_append, be_size]
    have c1 := hid (Be_any m 4 4 rfl (by omega) m rfl (by omega))
    generalize be 4 m ++ s = X at hadd hcut0 hXs
    generalize be 4 m = b at *
    have hXl : X.size ≤ 140737488355328 := by omega
    have hcut := hid hcut0
    clear hXs hcut0
    go_enter Try.func8, Try.ntmps8
    go_wp2_with fail
    refine (awake3_any _).mono ?_
    rintro e W0 ⟨rfl, hB0⟩
    go_wp2_with fail
    refine (c1.out _).mono ?_
    rintro e W1 ⟨rfl, hb1⟩
    have hB1 : Below w.heap.size w W1 := (hB0.alloc hB0.size _).trans (hb1.mono (by have := hB0.size; simp; omega))
    clear hb1 hB0
    go_wp2_with fail
    go_loopw [7] (fun i wr => ∃ j : Nat, i = .int .i64 j ∧ j ≤ X.size ∧ j ≤ 40 ∧ Below w.heap.size w wr) (fun i _ => 40 - (intOf i).toNat)
    case atStart => exact ⟨0, rfl, Nat.zero_le _, by omega, hB1⟩
    case round =>
      obtain ⟨j, rfl, hj1, hj2, hB⟩ := hrel
      have hB' := hid hB
      clear hB hB1
      by_cases hlt : j < X.size ∧ j < 40
      · obtain ⟨hlt1, hlt2⟩ := hlt
        have hY : (X.extract 0 j).size = j := by rw [extract_size]; omega
        obtain ⟨n, hn⟩ : ∃ n : Nat, min (j : Int) 31 = n := ⟨(min (j : Int) 31).toNat, by omega⟩
        have hn1 : n ≤ 31 ∧ n ≤ j := by omega
        obtain ⟨hn1, hn2⟩ := hn1
        have hZ : (X.extract 0 n).size = n := by rw [extract_size]; omega
        by_cases hjm : j < 4 + m
        ·
          have hjm' : decide ((j : Int) < 4 + m) = true := by simp; omega
          have ht := hid (hcut.out j hjm)
          skip
          clear hjm
          go_wp2_with fail
          refine (wireOpenB _ _ w.heap.size hB'.out.size).mono ?_
          rintro e W2 ⟨rfl, h2, b2⟩
          go_wp2_with fail
          refine (RTextB _ _ _ (by rw [extract_size]; omega) 4 _ h2 _ _ _ ht.out).mono ?_
          rintro e W3 ⟨rfl, h3, b3⟩
          have hB3 := hid (hB'.out.trans ((b2.mono hB'.out.size).trans b3))
          have hl3 := h3.1
          clear h2 b2 b3
          go_wp2_with (first | (go_at_call 15; refine (errNum_any _ _).mono ?_; rintro e w' ⟨rfl, rfl⟩) | (go_at_call 31; refine (RLeftB _ _ _ _ h3).mono ?_; rintro e w' ⟨rfl, rfl⟩))
          clear h3
          refine (wireOpenB _ _ w.heap.size hl3).mono ?_
          rintro e W4 ⟨rfl, h4, b4⟩
          go_wp2_with fail
          refine (RHashCutB _ _ _ (by rw [hZ]; omega) _ h4).mono ?_
          rintro e W5 ⟨rfl, h5, b5⟩
          have hB5 := hid (hB3.out.trans ((b4.mono hl3).trans b5))
          have h6 := h5.keep ((Below.refl _ _).alloc (Nat.le_refl _) (.cells z32 30))
          have hl5 := h5.1
          clear h4 h5 b4 b5 hB3 hB'
          go_wp2_with (first
            | ((with_reducible refine at_slot (some 12) ?_); refine wpList_alloc_row rfl 30 rfl ih _ hhi hhz z32 rfl ?_)
            | ((with_reducible refine at_slot none ?_); refine wpList_store_row rfl 30 (.tmp 12) (.tmp 80) rfl W5.heap.size z32 rfl rfl 30 z32 (heap_alloc_new _ _) (by rw [Try.infoHash]; rfl) rfl z32_hash.one ?_; rw [World.setRow_alloc_new])
            | (go_at_call 15; refine (errNum_any _ _).mono ?_; rintro e w' ⟨rfl, rfl⟩) | (go_at_call 31; refine (RLeftB _ _ _ _ h6).mono ?_; rintro e w' ⟨rfl, rfl⟩))
          go_roundw
          case rel => exact ⟨j + 1, by go_num, by omega, by omega, hB5.out.alloc hl5 _⟩
          case measure => simp [intOf]; omega
        ·
          have hjm' : decide ((j : Int) < 4 + m) = false := by simp; omega
          obtain ⟨x1, k1, l1, ht0⟩ : ∃ x k l, readText (X.extract 0 j) 4 = (x, k, l) := ⟨_, _, _, rfl⟩
          have ht := hid ht0
          clear hjm ht0
          go_wp2_with fail
          refine (wireOpenB _ _ w.heap.size hB'.out.size).mono ?_
          rintro e W2 ⟨rfl, h2, b2⟩
          go_wp2_with fail
          refine (RTextB _ _ _ (by rw [extract_size]; omega) 4 _ h2 _ _ _ ht.out).mono ?_
          rintro e W3 ⟨rfl, h3, b3⟩
          have hB3 := hid (hB'.out.trans ((b2.mono hB'.out.size).trans b3))
          have hl3 := h3.1
          clear h2 b2 b3
          go_wp2_with (first | (go_at_call 15; refine (errNum_any _ _).mono ?_; rintro e w' ⟨rfl, rfl⟩) | (go_at_call 31; refine (RLeftB _ _ _ _ h3).mono ?_; rintro e w' ⟨rfl, rfl⟩))
          clear h3
          refine (wireOpenB _ _ w.heap.size hl3).mono ?_
          rintro e W4 ⟨rfl, h4, b4⟩
          go_wp2_with fail
          refine (RHashCutB _ _ _ (by rw [hZ]; omega) _ h4).mono ?_
          rintro e W5 ⟨rfl, h5, b5⟩
          have hB5 := hid (hB3.out.trans ((b4.mono hl3).trans b5))
          have h6 := h5.keep ((Below.refl _ _).alloc (Nat.le_refl _) (.cells z32 30))
          have hl5 := h5.1
          clear h4 h5 b4 b5 hB3 hB'
          go_wp2_with (first
            | ((with_reducible refine at_slot (some 12) ?_); refine wpList_alloc_row rfl 30 rfl ih _ hhi hhz z32 rfl ?_)
            | ((with_reducible refine at_slot none ?_); refine wpList_store_row rfl 30 (.tmp 12) (.tmp 80) rfl W5.heap.size z32 rfl rfl 30 z32 (heap_alloc_new _ _) (by rw [Try.infoHash]; rfl) rfl z32_hash.one ?_; rw [World.setRow_alloc_new])
            | (go_at_call 15; refine (errNum_any _ _).mono ?_; rintro e w' ⟨rfl, rfl⟩) | (go_at_call 31; refine (RLeftB _ _ _ _ h6).mono ?_; rintro e w' ⟨rfl, rfl⟩))
          go_roundw
          case rel => exact ⟨j + 1, by go_num, by omega, by omega, hB5.out.alloc hl5 _⟩
          case measure => simp [intOf]; omega
      · have hge : ¬ (j < X.size ∧ j < 40) := hlt
        by_cases hlt1 : j < X.size
        · obtain rfl : j = 40 := by omega
          go_wp2
          go_ret
          exact ⟨rfl, hB'.out⟩
        · go_wp2
          go_ret
          exact ⟨rfl, hB'.out⟩

end Go.Proofs.Ytlbmlnefglgonab
