/- Layer 7: DiskForms: how many sectors there may be; places and sectors that are none. -/
import Derived.Test.YtbclmkpigdeilaaDkW
import Derived.Test.YtbclmkpigdeilaaArith
import Derived.Test.YtbclmkpigdeilaaU8
namespace Go.Proofs.Ytbclmkpigdeilaa
open Go.RowKit
open Go.Lib (strCells strCells_length strCells_oneCell)

theorem dkNew_code (n c : Int) (hc : (1 ≤ n ∧ n ≤ 256 ∧ c = 0) ∨ (¬ (1 ≤ n ∧ n ≤ 256) ∧ c = 700)) (w : World) : Calls Try.prog 29 #[.int .i64 n] w fun e w' => ∃ p, e = .returned (.tuple #[p, .int .i64 c]) ∧ Below w.heap.size w w' := by
  rcases hc with ⟨h1, h2, rfl⟩ | ⟨h, rfl⟩
  · obtain ⟨m, rfl⟩ : ∃ m : Nat, n = (m : Int) := ⟨n.toNat, by omega⟩
    exact (dkNew_yes m (by omega) (by omega) w).mono fun e w' h => ⟨_, h.1, h.2.2⟩
  · exact (dkNew_no n h w).mono fun e w' h => ⟨_, h.1, by rw [h.2]; exact Below.refl _ _⟩
theorem dkRead_code (at_ c : Int) (d r b n : Nat) (D : Dk) (hc : (0 ≤ at_ ∧ at_ < (n : Int) ∧ c = 0) ∨ (¬ (0 ≤ at_ ∧ at_ < (n : Int)) ∧ c = 700)) (w : World) (hD : DiskAt w d r b n D) : Calls Try.prog 34 #[.pointer (some ⟨d, 0, none⟩), .int .i64 at_] w fun e w' => ∃ s, e = .returned (.tuple #[.string s, .int .i64 c]) ∧ w = w' := by
  rcases hc with ⟨h1, h2, rfl⟩ | ⟨h, rfl⟩
  · obtain ⟨m, rfl⟩ : ∃ m : Nat, at_ = (m : Int) := ⟨at_.toNat, by omega⟩
    exact (dkRead_yes m d r b n D (by omega) w hD).mono fun e w' h => ⟨_, h.1, h.2⟩
  · exact (dkRead_no at_ d r b n D h w hD).mono fun e w' h => ⟨_, h.1, h.2⟩
theorem dkWrite_code (at_ c : Int) (s : ByteArray) (d r b n : Nat) (D : Dk) (hc : (0 ≤ at_ ∧ at_ < (n : Int) ∧ s.size = 64 ∧ c = 0) ∨ (¬ (0 ≤ at_ ∧ at_ < (n : Int) ∧ s.size = 64) ∧ c = 700)) (w : World) (hD : DiskAt w d r b n D) : Calls Try.prog 32 #[.pointer (some ⟨d, 0, none⟩), .int .i64 at_, .string s] w fun e w' => ∃ D', e = .returned (.int .i64 c) ∧ DiskAt w' d r b n D' ∧ Turns w w' r (some b) := by
  rcases hc with ⟨h1, h2, h3, rfl⟩ | ⟨h, rfl⟩
  · obtain ⟨m, rfl⟩ : ∃ m : Nat, at_ = (m : Int) := ⟨at_.toNat, by omega⟩
    exact (dkWrite_yes m s h3 d r b n D (by omega) w hD).mono fun e w' h => ⟨_, h⟩
  · by_cases h1 : 0 ≤ at_ ∧ at_ < (n : Int)
    · obtain ⟨m, rfl⟩ : ∃ m : Nat, at_ = (m : Int) := ⟨at_.toNat, by omega⟩
      exact (dkWrite_not m s (fun e => h ⟨h1.1, h1.2, e⟩) d r b n D (by omega) w hD).mono fun e w' h => ⟨D, h.1, by rw [← h.2]; exact hD, by rw [← h.2]; exact Turns.refl _ _ _⟩
    · exact (dkWrite_no at_ s d r b n D h1 w hD).mono fun e w' h => ⟨D, h.1, by rw [← h.2]; exact hD, by rw [← h.2]; exact Turns.refl _ _ _⟩

set_option maxRecDepth 100000 in
set_option maxHeartbeats 4000000 in
theorem DiskForms_law {w : World} (n at_ size : Int) :
    Calls Try.prog 8 #[.int .i64 n, .int .i64 at_, .int .i64 size] w fun e w' => e = .returned (.bool true) ∧ Below w.heap.size w w' := by
  obtain ⟨L, hL, hand, -⟩ := and_mask size 7 (by decide) 127 rfl
  have hL8 : L < 128 := hL
  obtain ⟨i0, hi, hz0, hzz, hby⟩ := info_parts Try.infoU8
  obtain ⟨x, hx⟩ : ∃ z, zeroS L = z := ⟨_, rfl⟩
  have hxs : x.size = L := by rw [← hx]; exact zeroS_size _
  have hx' := hid hx
  have hxs' := hid hxs
  have hS := hid (fun V => sector_any 1 V)
  have hAw := hid (awake7_any w)
  clear hx hxs hL
  have cM : (1 ≤ n ∧ n ≤ 256 ∧ ∃ c : Int, c = 0 ∧ (c == 0) = true) ∨ n < 1 ∨ (1 ≤ n ∧ 256 < n) := by
    by_cases h1 : 1 ≤ n
    · by_cases h2 : n ≤ 256
      · exact .inl ⟨h1, h2, 0, rfl, rfl⟩
      · exact .inr (.inr ⟨h1, by omega⟩)
    · exact .inr (.inl (by omega))
  have cI : (0 ≤ at_ ∧ at_ < 4) ∨ at_ < 0 ∨ (0 ≤ at_ ∧ 4 ≤ at_) := by omega
  have cL : L = 64 ∨ L ≠ 64 := by omega
  rcases cM with ⟨m1, m2, -⟩ | m1 | ⟨m1, m2⟩ <;> rcases cI with ⟨i1, i2⟩ | i1 | ⟨i1, i2⟩ <;> rcases cL with hl | hl
  · as_aux_lemma =>
      have hN := hid (fun V => dkNew_code n 0 (.inl ⟨m1, m2, rfl⟩) V)
      have hN4 := hid (fun V => dkNew_yes 4 (by decide) (by decide) V)
      have hR := hid (fun d r b D V (h : DiskAt V d r b 4 D) => dkRead_code at_ 0 d r b 4 D (.inl ⟨i1, by omega, rfl⟩) V h)
      have hW := hid (fun d r b D V (h : DiskAt V d r b 4 D) => dkWrite_code at_ 0 (secT 1) d r b 4 D (.inl ⟨i1, by omega, secT_size 1, rfl⟩) V h)
      have hX := hid (fun d r b D V (h : DiskAt V d r b 4 D) => dkWrite_code 1 0 x d r b 4 D (.inl ⟨by omega, by omega, by rw [hxs'.out]; exact hl, rfl⟩) V h)
      have hl2 : ((L : Int) == 64) = true := beq_iff_eq.2 (by omega)
      clear hl
      go_enter Try.func8, Try.ntmps8
      go_wp2_with fail
      refine hAw.out.mono ?_
      rintro e W1 ⟨rfl, hb⟩
      have hB1 := hid hb
      clear hb hAw
      try (rename_i hKK; refine hKK _ _ ?_; clear hKK)
      go_wp2_with fail
      refine (hN.out _).mono ?_
      rintro e W2 ⟨p, rfl, hb⟩
      have hB2 := hid (bup hb hB1.out)
      clear hb hB1
      try (rename_i hKK; refine hKK _ _ ?_; clear hKK)
      go_wp2_with fail
      refine (hN4.out _).mono ?_
      rintro e W3 ⟨rfl, hA, hb⟩
      obtain ⟨r, hr0⟩ : ∃ r, W2.heap.size = r := ⟨_, rfl⟩
      rw [hr0] at hA hb ⊢
      have hr := hid (show w.heap.size ≤ r from by rw [← hr0]; exact hB2.out.size)
      have hb' := hid (show w.heap.size ≤ r + 1 from by rw [← hr0]; have := hB2.out.size; omega)
      rw [← hr0] at hb
      have hA3 := hid hA
      have hB3 := hid (bup hb hB2.out)
      clear hA hb hr0 hB2
      try (rename_i hKK; refine hKK _ _ ?_; clear hKK)
      go_wp2_with fail
      refine (hR.out _ _ _ _ _ hA3.out).mono ?_
      rintro e w' ⟨sr, rfl, rfl⟩
      try (rename_i hKK; refine hKK _ _ ?_; clear hKK)
      go_wp2_with fail
      refine (hS.out _).mono ?_
      rintro e W4 ⟨rfl, hb⟩
      have hB4 := hid (bup hb hB3.out)
      have hA4 := hid (hA3.out.on hb)
      clear hb hB3 hA3
      try (rename_i hKK; refine hKK _ _ ?_; clear hKK)
      go_wp2_with fail
      refine (hW.out _ _ _ _ _ hA4.out).mono ?_
      rintro e W5 ⟨D', rfl, hA, hT⟩
      have hA5 := hid hA
      have hB5 := hid (dk_below hB4.out hT hr.out hb'.out)
      clear hA hT hA4 hB4
      try (rename_i hKK; refine hKK _ _ ?_; clear hKK)
      go_wp2_with (first
        | ((with_reducible refine at_slot (some 55) ?_); refine wpList_make_zeros rfl _ _ 51 rfl 5 i0 Try.underlying51 hi hz0 hzz hby _ L rfl rfl rfl (by omega) x hx'.out ?_; intro W6 hRz hb; have hcv := run_convert_row (P := Try.prog) (w := W6) (e := 5) 51 9 Try.underlying51 Try.underlying5 Try.underlying9 hxs'.out.symm hRz; have hcv' := hid hcv; clear hcv hRz; have hB6 := hid (bup hb hB5.out); have hA6 := hid (hA5.out.on hb); clear hb hB5 hA5)
        | ((with_reducible refine at_slot (some 56) ?_); refine wpList_convert rfl 51 9 (.tmp 55) rfl _ (.string x) _ rfl (by exact hcv'.out) ?_)
        | fail)
      clear hcv'
      refine (hX.out _ _ _ _ _ hA6.out).mono ?_
      rintro e W7 ⟨D', rfl, hA, hT⟩
      have hA7 := hid hA
      have hB7 := hid (dk_below hB6.out hT hr.out hb'.out)
      clear hA hT hA6 hB6
      try (rename_i hKK; refine hKK _ _ ?_; clear hKK)
      go_wp2_with (first
        | (go_at_call 17; refine (errNum_any _ _).mono ?_; rintro e w' ⟨rfl, rfl⟩)
        | fail)
      go_ret
      exact ⟨rfl, hB7.out⟩
  · as_aux_lemma =>
      have hN := hid (fun V => dkNew_code n 0 (.inl ⟨m1, m2, rfl⟩) V)
      have hN4 := hid (fun V => dkNew_yes 4 (by decide) (by decide) V)
      have hR := hid (fun d r b D V (h : DiskAt V d r b 4 D) => dkRead_code at_ 0 d r b 4 D (.inl ⟨i1, by omega, rfl⟩) V h)
      have hW := hid (fun d r b D V (h : DiskAt V d r b 4 D) => dkWrite_code at_ 0 (secT 1) d r b 4 D (.inl ⟨i1, by omega, secT_size 1, rfl⟩) V h)
      have hX := hid (fun d r b D V (h : DiskAt V d r b 4 D) => dkWrite_code 1 700 x d r b 4 D (.inr ⟨fun h => hl (by rw [← hxs'.out]; exact h.2.2), rfl⟩) V h)
      have hl2 : ((L : Int) == 64) = false := beq_eq_false_iff_ne.2 (by omega)
      clear hl
      go_enter Try.func8, Try.ntmps8
      go_wp2_with fail
      refine hAw.out.mono ?_
      rintro e W1 ⟨rfl, hb⟩
      have hB1 := hid hb
      clear hb hAw
      try (rename_i hKK; refine hKK _ _ ?_; clear hKK)
      go_wp2_with fail
      refine (hN.out _).mono ?_
      rintro e W2 ⟨p, rfl, hb⟩
      have hB2 := hid (bup hb hB1.out)
      clear hb hB1
      try (rename_i hKK; refine hKK _ _ ?_; clear hKK)
      go_wp2_with fail
      refine (hN4.out _).mono ?_
      rintro e W3 ⟨rfl, hA, hb⟩
      obtain ⟨r, hr0⟩ : ∃ r, W2.heap.size = r := ⟨_, rfl⟩
      rw [hr0] at hA hb ⊢
      have hr := hid (show w.heap.size ≤ r from by rw [← hr0]; exact hB2.out.size)
      have hb' := hid (show w.heap.size ≤ r + 1 from by rw [← hr0]; have := hB2.out.size; omega)
      rw [← hr0] at hb
      have hA3 := hid hA
      have hB3 := hid (bup hb hB2.out)
      clear hA hb hr0 hB2
      try (rename_i hKK; refine hKK _ _ ?_; clear hKK)
      go_wp2_with fail
      refine (hR.out _ _ _ _ _ hA3.out).mono ?_
      rintro e w' ⟨sr, rfl, rfl⟩
      try (rename_i hKK; refine hKK _ _ ?_; clear hKK)
      go_wp2_with fail
      refine (hS.out _).mono ?_
      rintro e W4 ⟨rfl, hb⟩
      have hB4 := hid (bup hb hB3.out)
      have hA4 := hid (hA3.out.on hb)
      clear hb hB3 hA3
      try (rename_i hKK; refine hKK _ _ ?_; clear hKK)
      go_wp2_with fail
      refine (hW.out _ _ _ _ _ hA4.out).mono ?_
      rintro e W5 ⟨D', rfl, hA, hT⟩
      have hA5 := hid hA
      have hB5 := hid (dk_below hB4.out hT hr.out hb'.out)
      clear hA hT hA4 hB4
      try (rename_i hKK; refine hKK _ _ ?_; clear hKK)
      go_wp2_with (first
        | ((with_reducible refine at_slot (some 55) ?_); refine wpList_make_zeros rfl _ _ 51 rfl 5 i0 Try.underlying51 hi hz0 hzz hby _ L rfl rfl rfl (by omega) x hx'.out ?_; intro W6 hRz hb; have hcv := run_convert_row (P := Try.prog) (w := W6) (e := 5) 51 9 Try.underlying51 Try.underlying5 Try.underlying9 hxs'.out.symm hRz; have hcv' := hid hcv; clear hcv hRz; have hB6 := hid (bup hb hB5.out); have hA6 := hid (hA5.out.on hb); clear hb hB5 hA5)
        | ((with_reducible refine at_slot (some 56) ?_); refine wpList_convert rfl 51 9 (.tmp 55) rfl _ (.string x) _ rfl (by exact hcv'.out) ?_)
        | fail)
      clear hcv'
      refine (hX.out _ _ _ _ _ hA6.out).mono ?_
      rintro e W7 ⟨D', rfl, hA, hT⟩
      have hA7 := hid hA
      have hB7 := hid (dk_below hB6.out hT hr.out hb'.out)
      clear hA hT hA6 hB6
      try (rename_i hKK; refine hKK _ _ ?_; clear hKK)
      go_wp2_with (first
        | (go_at_call 17; refine (errNum_any _ _).mono ?_; rintro e w' ⟨rfl, rfl⟩)
        | fail)
      go_ret
      exact ⟨rfl, hB7.out⟩
  · as_aux_lemma =>
      have hN := hid (fun V => dkNew_code n 0 (.inl ⟨m1, m2, rfl⟩) V)
      have hN4 := hid (fun V => dkNew_yes 4 (by decide) (by decide) V)
      have hR := hid (fun d r b D V (h : DiskAt V d r b 4 D) => dkRead_code at_ 700 d r b 4 D (.inr ⟨by omega, rfl⟩) V h)
      have hW := hid (fun d r b D V (h : DiskAt V d r b 4 D) => dkWrite_code at_ 700 (secT 1) d r b 4 D (.inr ⟨by omega, rfl⟩) V h)
      have hX := hid (fun d r b D V (h : DiskAt V d r b 4 D) => dkWrite_code 1 0 x d r b 4 D (.inl ⟨by omega, by omega, by rw [hxs'.out]; exact hl, rfl⟩) V h)
      have i3 : ¬ (0 ≤ at_) := by omega
      have hl2 : ((L : Int) == 64) = true := beq_iff_eq.2 (by omega)
      clear hl
      go_enter Try.func8, Try.ntmps8
      go_wp2_with fail
      refine hAw.out.mono ?_
      rintro e W1 ⟨rfl, hb⟩
      have hB1 := hid hb
      clear hb hAw
      try (rename_i hKK; refine hKK _ _ ?_; clear hKK)
      go_wp2_with fail
      refine (hN.out _).mono ?_
      rintro e W2 ⟨p, rfl, hb⟩
      have hB2 := hid (bup hb hB1.out)
      clear hb hB1
      try (rename_i hKK; refine hKK _ _ ?_; clear hKK)
      go_wp2_with fail
      refine (hN4.out _).mono ?_
      rintro e W3 ⟨rfl, hA, hb⟩
      obtain ⟨r, hr0⟩ : ∃ r, W2.heap.size = r := ⟨_, rfl⟩
      rw [hr0] at hA hb ⊢
      have hr := hid (show w.heap.size ≤ r from by rw [← hr0]; exact hB2.out.size)
      have hb' := hid (show w.heap.size ≤ r + 1 from by rw [← hr0]; have := hB2.out.size; omega)
      rw [← hr0] at hb
      have hA3 := hid hA
      have hB3 := hid (bup hb hB2.out)
      clear hA hb hr0 hB2
      try (rename_i hKK; refine hKK _ _ ?_; clear hKK)
      go_wp2_with fail
      refine (hR.out _ _ _ _ _ hA3.out).mono ?_
      rintro e w' ⟨sr, rfl, rfl⟩
      try (rename_i hKK; refine hKK _ _ ?_; clear hKK)
      go_wp2_with fail
      refine (hS.out _).mono ?_
      rintro e W4 ⟨rfl, hb⟩
      have hB4 := hid (bup hb hB3.out)
      have hA4 := hid (hA3.out.on hb)
      clear hb hB3 hA3
      try (rename_i hKK; refine hKK _ _ ?_; clear hKK)
      go_wp2_with fail
      refine (hW.out _ _ _ _ _ hA4.out).mono ?_
      rintro e W5 ⟨D', rfl, hA, hT⟩
      have hA5 := hid hA
      have hB5 := hid (dk_below hB4.out hT hr.out hb'.out)
      clear hA hT hA4 hB4
      try (rename_i hKK; refine hKK _ _ ?_; clear hKK)
      go_wp2_with (first
        | ((with_reducible refine at_slot (some 55) ?_); refine wpList_make_zeros rfl _ _ 51 rfl 5 i0 Try.underlying51 hi hz0 hzz hby _ L rfl rfl rfl (by omega) x hx'.out ?_; intro W6 hRz hb; have hcv := run_convert_row (P := Try.prog) (w := W6) (e := 5) 51 9 Try.underlying51 Try.underlying5 Try.underlying9 hxs'.out.symm hRz; have hcv' := hid hcv; clear hcv hRz; have hB6 := hid (bup hb hB5.out); have hA6 := hid (hA5.out.on hb); clear hb hB5 hA5)
        | ((with_reducible refine at_slot (some 56) ?_); refine wpList_convert rfl 51 9 (.tmp 55) rfl _ (.string x) _ rfl (by exact hcv'.out) ?_)
        | fail)
      clear hcv'
      refine (hX.out _ _ _ _ _ hA6.out).mono ?_
      rintro e W7 ⟨D', rfl, hA, hT⟩
      have hA7 := hid hA
      have hB7 := hid (dk_below hB6.out hT hr.out hb'.out)
      clear hA hT hA6 hB6
      try (rename_i hKK; refine hKK _ _ ?_; clear hKK)
      go_wp2_with (first
        | (go_at_call 17; refine (errNum_any _ _).mono ?_; rintro e w' ⟨rfl, rfl⟩)
        | fail)
      go_ret
      exact ⟨rfl, hB7.out⟩
  · as_aux_lemma =>
      have hN := hid (fun V => dkNew_code n 0 (.inl ⟨m1, m2, rfl⟩) V)
      have hN4 := hid (fun V => dkNew_yes 4 (by decide) (by decide) V)
      have hR := hid (fun d r b D V (h : DiskAt V d r b 4 D) => dkRead_code at_ 700 d r b 4 D (.inr ⟨by omega, rfl⟩) V h)
      have hW := hid (fun d r b D V (h : DiskAt V d r b 4 D) => dkWrite_code at_ 700 (secT 1) d r b 4 D (.inr ⟨by omega, rfl⟩) V h)
      have hX := hid (fun d r b D V (h : DiskAt V d r b 4 D) => dkWrite_code 1 700 x d r b 4 D (.inr ⟨fun h => hl (by rw [← hxs'.out]; exact h.2.2), rfl⟩) V h)
      have i3 : ¬ (0 ≤ at_) := by omega
      have hl2 : ((L : Int) == 64) = false := beq_eq_false_iff_ne.2 (by omega)
      clear hl
      go_enter Try.func8, Try.ntmps8
      go_wp2_with fail
      refine hAw.out.mono ?_
      rintro e W1 ⟨rfl, hb⟩
      have hB1 := hid hb
      clear hb hAw
      try (rename_i hKK; refine hKK _ _ ?_; clear hKK)
      go_wp2_with fail
      refine (hN.out _).mono ?_
      rintro e W2 ⟨p, rfl, hb⟩
      have hB2 := hid (bup hb hB1.out)
      clear hb hB1
      try (rename_i hKK; refine hKK _ _ ?_; clear hKK)
      go_wp2_with fail
      refine (hN4.out _).mono ?_
      rintro e W3 ⟨rfl, hA, hb⟩
      obtain ⟨r, hr0⟩ : ∃ r, W2.heap.size = r := ⟨_, rfl⟩
      rw [hr0] at hA hb ⊢
      have hr := hid (show w.heap.size ≤ r from by rw [← hr0]; exact hB2.out.size)
      have hb' := hid (show w.heap.size ≤ r + 1 from by rw [← hr0]; have := hB2.out.size; omega)
      rw [← hr0] at hb
      have hA3 := hid hA
      have hB3 := hid (bup hb hB2.out)
      clear hA hb hr0 hB2
      try (rename_i hKK; refine hKK _ _ ?_; clear hKK)
      go_wp2_with fail
      refine (hR.out _ _ _ _ _ hA3.out).mono ?_
      rintro e w' ⟨sr, rfl, rfl⟩
      try (rename_i hKK; refine hKK _ _ ?_; clear hKK)
      go_wp2_with fail
      refine (hS.out _).mono ?_
      rintro e W4 ⟨rfl, hb⟩
      have hB4 := hid (bup hb hB3.out)
      have hA4 := hid (hA3.out.on hb)
      clear hb hB3 hA3
      try (rename_i hKK; refine hKK _ _ ?_; clear hKK)
      go_wp2_with fail
      refine (hW.out _ _ _ _ _ hA4.out).mono ?_
      rintro e W5 ⟨D', rfl, hA, hT⟩
      have hA5 := hid hA
      have hB5 := hid (dk_below hB4.out hT hr.out hb'.out)
      clear hA hT hA4 hB4
      try (rename_i hKK; refine hKK _ _ ?_; clear hKK)
      go_wp2_with (first
        | ((with_reducible refine at_slot (some 55) ?_); refine wpList_make_zeros rfl _ _ 51 rfl 5 i0 Try.underlying51 hi hz0 hzz hby _ L rfl rfl rfl (by omega) x hx'.out ?_; intro W6 hRz hb; have hcv := run_convert_row (P := Try.prog) (w := W6) (e := 5) 51 9 Try.underlying51 Try.underlying5 Try.underlying9 hxs'.out.symm hRz; have hcv' := hid hcv; clear hcv hRz; have hB6 := hid (bup hb hB5.out); have hA6 := hid (hA5.out.on hb); clear hb hB5 hA5)
        | ((with_reducible refine at_slot (some 56) ?_); refine wpList_convert rfl 51 9 (.tmp 55) rfl _ (.string x) _ rfl (by exact hcv'.out) ?_)
        | fail)
      clear hcv'
      refine (hX.out _ _ _ _ _ hA6.out).mono ?_
      rintro e W7 ⟨D', rfl, hA, hT⟩
      have hA7 := hid hA
      have hB7 := hid (dk_below hB6.out hT hr.out hb'.out)
      clear hA hT hA6 hB6
      try (rename_i hKK; refine hKK _ _ ?_; clear hKK)
      go_wp2_with (first
        | (go_at_call 17; refine (errNum_any _ _).mono ?_; rintro e w' ⟨rfl, rfl⟩)
        | fail)
      go_ret
      exact ⟨rfl, hB7.out⟩
  · as_aux_lemma =>
      have hN := hid (fun V => dkNew_code n 0 (.inl ⟨m1, m2, rfl⟩) V)
      have hN4 := hid (fun V => dkNew_yes 4 (by decide) (by decide) V)
      have hR := hid (fun d r b D V (h : DiskAt V d r b 4 D) => dkRead_code at_ 700 d r b 4 D (.inr ⟨by omega, rfl⟩) V h)
      have hW := hid (fun d r b D V (h : DiskAt V d r b 4 D) => dkWrite_code at_ 700 (secT 1) d r b 4 D (.inr ⟨by omega, rfl⟩) V h)
      have hX := hid (fun d r b D V (h : DiskAt V d r b 4 D) => dkWrite_code 1 0 x d r b 4 D (.inl ⟨by omega, by omega, by rw [hxs'.out]; exact hl, rfl⟩) V h)
      have i3 : ¬ (at_ < 4) := by omega
      have i4 : decide (at_ < 4) = false := decide_eq_false i3
      have hl2 : ((L : Int) == 64) = true := beq_iff_eq.2 (by omega)
      clear hl
      go_enter Try.func8, Try.ntmps8
      go_wp2_with fail
      refine hAw.out.mono ?_
      rintro e W1 ⟨rfl, hb⟩
      have hB1 := hid hb
      clear hb hAw
      try (rename_i hKK; refine hKK _ _ ?_; clear hKK)
      go_wp2_with fail
      refine (hN.out _).mono ?_
      rintro e W2 ⟨p, rfl, hb⟩
      have hB2 := hid (bup hb hB1.out)
      clear hb hB1
      try (rename_i hKK; refine hKK _ _ ?_; clear hKK)
      go_wp2_with fail
      refine (hN4.out _).mono ?_
      rintro e W3 ⟨rfl, hA, hb⟩
      obtain ⟨r, hr0⟩ : ∃ r, W2.heap.size = r := ⟨_, rfl⟩
      rw [hr0] at hA hb ⊢
      have hr := hid (show w.heap.size ≤ r from by rw [← hr0]; exact hB2.out.size)
      have hb' := hid (show w.heap.size ≤ r + 1 from by rw [← hr0]; have := hB2.out.size; omega)
      rw [← hr0] at hb
      have hA3 := hid hA
      have hB3 := hid (bup hb hB2.out)
      clear hA hb hr0 hB2
      try (rename_i hKK; refine hKK _ _ ?_; clear hKK)
      go_wp2_with fail
      refine (hR.out _ _ _ _ _ hA3.out).mono ?_
      rintro e w' ⟨sr, rfl, rfl⟩
      try (rename_i hKK; refine hKK _ _ ?_; clear hKK)
      go_wp2_with fail
      refine (hS.out _).mono ?_
      rintro e W4 ⟨rfl, hb⟩
      have hB4 := hid (bup hb hB3.out)
      have hA4 := hid (hA3.out.on hb)
      clear hb hB3 hA3
      try (rename_i hKK; refine hKK _ _ ?_; clear hKK)
      go_wp2_with fail
      refine (hW.out _ _ _ _ _ hA4.out).mono ?_
      rintro e W5 ⟨D', rfl, hA, hT⟩
      have hA5 := hid hA
      have hB5 := hid (dk_below hB4.out hT hr.out hb'.out)
      clear hA hT hA4 hB4
      try (rename_i hKK; refine hKK _ _ ?_; clear hKK)
      go_wp2_with (first
        | ((with_reducible refine at_slot (some 55) ?_); refine wpList_make_zeros rfl _ _ 51 rfl 5 i0 Try.underlying51 hi hz0 hzz hby _ L rfl rfl rfl (by omega) x hx'.out ?_; intro W6 hRz hb; have hcv := run_convert_row (P := Try.prog) (w := W6) (e := 5) 51 9 Try.underlying51 Try.underlying5 Try.underlying9 hxs'.out.symm hRz; have hcv' := hid hcv; clear hcv hRz; have hB6 := hid (bup hb hB5.out); have hA6 := hid (hA5.out.on hb); clear hb hB5 hA5)
        | ((with_reducible refine at_slot (some 56) ?_); refine wpList_convert rfl 51 9 (.tmp 55) rfl _ (.string x) _ rfl (by exact hcv'.out) ?_)
        | fail)
      clear hcv'
      refine (hX.out _ _ _ _ _ hA6.out).mono ?_
      rintro e W7 ⟨D', rfl, hA, hT⟩
      have hA7 := hid hA
      have hB7 := hid (dk_below hB6.out hT hr.out hb'.out)
      clear hA hT hA6 hB6
      try (rename_i hKK; refine hKK _ _ ?_; clear hKK)
      go_wp2_with (first
        | (go_at_call 17; refine (errNum_any _ _).mono ?_; rintro e w' ⟨rfl, rfl⟩)
        | fail)
      go_ret
      exact ⟨rfl, hB7.out⟩
  · as_aux_lemma =>
      have hN := hid (fun V => dkNew_code n 0 (.inl ⟨m1, m2, rfl⟩) V)
      have hN4 := hid (fun V => dkNew_yes 4 (by decide) (by decide) V)
      have hR := hid (fun d r b D V (h : DiskAt V d r b 4 D) => dkRead_code at_ 700 d r b 4 D (.inr ⟨by omega, rfl⟩) V h)
      have hW := hid (fun d r b D V (h : DiskAt V d r b 4 D) => dkWrite_code at_ 700 (secT 1) d r b 4 D (.inr ⟨by omega, rfl⟩) V h)
      have hX := hid (fun d r b D V (h : DiskAt V d r b 4 D) => dkWrite_code 1 700 x d r b 4 D (.inr ⟨fun h => hl (by rw [← hxs'.out]; exact h.2.2), rfl⟩) V h)
      have i3 : ¬ (at_ < 4) := by omega
      have i4 : decide (at_ < 4) = false := decide_eq_false i3
      have hl2 : ((L : Int) == 64) = false := beq_eq_false_iff_ne.2 (by omega)
      clear hl
      go_enter Try.func8, Try.ntmps8
      go_wp2_with fail
      refine hAw.out.mono ?_
      rintro e W1 ⟨rfl, hb⟩
      have hB1 := hid hb
      clear hb hAw
      try (rename_i hKK; refine hKK _ _ ?_; clear hKK)
      go_wp2_with fail
      refine (hN.out _).mono ?_
      rintro e W2 ⟨p, rfl, hb⟩
      have hB2 := hid (bup hb hB1.out)
      clear hb hB1
      try (rename_i hKK; refine hKK _ _ ?_; clear hKK)
      go_wp2_with fail
      refine (hN4.out _).mono ?_
      rintro e W3 ⟨rfl, hA, hb⟩
      obtain ⟨r, hr0⟩ : ∃ r, W2.heap.size = r := ⟨_, rfl⟩
      rw [hr0] at hA hb ⊢
      have hr := hid (show w.heap.size ≤ r from by rw [← hr0]; exact hB2.out.size)
      have hb' := hid (show w.heap.size ≤ r + 1 from by rw [← hr0]; have := hB2.out.size; omega)
      rw [← hr0] at hb
      have hA3 := hid hA
      have hB3 := hid (bup hb hB2.out)
      clear hA hb hr0 hB2
      try (rename_i hKK; refine hKK _ _ ?_; clear hKK)
      go_wp2_with fail
      refine (hR.out _ _ _ _ _ hA3.out).mono ?_
      rintro e w' ⟨sr, rfl, rfl⟩
      try (rename_i hKK; refine hKK _ _ ?_; clear hKK)
      go_wp2_with fail
      refine (hS.out _).mono ?_
      rintro e W4 ⟨rfl, hb⟩
      have hB4 := hid (bup hb hB3.out)
      have hA4 := hid (hA3.out.on hb)
      clear hb hB3 hA3
      try (rename_i hKK; refine hKK _ _ ?_; clear hKK)
      go_wp2_with fail
      refine (hW.out _ _ _ _ _ hA4.out).mono ?_
      rintro e W5 ⟨D', rfl, hA, hT⟩
      have hA5 := hid hA
      have hB5 := hid (dk_below hB4.out hT hr.out hb'.out)
      clear hA hT hA4 hB4
      try (rename_i hKK; refine hKK _ _ ?_; clear hKK)
      go_wp2_with (first
        | ((with_reducible refine at_slot (some 55) ?_); refine wpList_make_zeros rfl _ _ 51 rfl 5 i0 Try.underlying51 hi hz0 hzz hby _ L rfl rfl rfl (by omega) x hx'.out ?_; intro W6 hRz hb; have hcv := run_convert_row (P := Try.prog) (w := W6) (e := 5) 51 9 Try.underlying51 Try.underlying5 Try.underlying9 hxs'.out.symm hRz; have hcv' := hid hcv; clear hcv hRz; have hB6 := hid (bup hb hB5.out); have hA6 := hid (hA5.out.on hb); clear hb hB5 hA5)
        | ((with_reducible refine at_slot (some 56) ?_); refine wpList_convert rfl 51 9 (.tmp 55) rfl _ (.string x) _ rfl (by exact hcv'.out) ?_)
        | fail)
      clear hcv'
      refine (hX.out _ _ _ _ _ hA6.out).mono ?_
      rintro e W7 ⟨D', rfl, hA, hT⟩
      have hA7 := hid hA
      have hB7 := hid (dk_below hB6.out hT hr.out hb'.out)
      clear hA hT hA6 hB6
      try (rename_i hKK; refine hKK _ _ ?_; clear hKK)
      go_wp2_with (first
        | (go_at_call 17; refine (errNum_any _ _).mono ?_; rintro e w' ⟨rfl, rfl⟩)
        | fail)
      go_ret
      exact ⟨rfl, hB7.out⟩
  · as_aux_lemma =>
      have hN := hid (fun V => dkNew_code n 700 (.inr ⟨by omega, rfl⟩) V)
      have hN4 := hid (fun V => dkNew_yes 4 (by decide) (by decide) V)
      have hR := hid (fun d r b D V (h : DiskAt V d r b 4 D) => dkRead_code at_ 0 d r b 4 D (.inl ⟨i1, by omega, rfl⟩) V h)
      have hW := hid (fun d r b D V (h : DiskAt V d r b 4 D) => dkWrite_code at_ 0 (secT 1) d r b 4 D (.inl ⟨i1, by omega, secT_size 1, rfl⟩) V h)
      have hX := hid (fun d r b D V (h : DiskAt V d r b 4 D) => dkWrite_code 1 0 x d r b 4 D (.inl ⟨by omega, by omega, by rw [hxs'.out]; exact hl, rfl⟩) V h)
      have m3 : ¬ (1 ≤ n) := by omega
      have hl2 : ((L : Int) == 64) = true := beq_iff_eq.2 (by omega)
      clear hl
      go_enter Try.func8, Try.ntmps8
      go_wp2_with fail
      refine hAw.out.mono ?_
      rintro e W1 ⟨rfl, hb⟩
      have hB1 := hid hb
      clear hb hAw
      try (rename_i hKK; refine hKK _ _ ?_; clear hKK)
      go_wp2_with fail
      refine (hN.out _).mono ?_
      rintro e W2 ⟨p, rfl, hb⟩
      have hB2 := hid (bup hb hB1.out)
      clear hb hB1
      try (rename_i hKK; refine hKK _ _ ?_; clear hKK)
      go_wp2_with fail
      refine (hN4.out _).mono ?_
      rintro e W3 ⟨rfl, hA, hb⟩
      obtain ⟨r, hr0⟩ : ∃ r, W2.heap.size = r := ⟨_, rfl⟩
      rw [hr0] at hA hb ⊢
      have hr := hid (show w.heap.size ≤ r from by rw [← hr0]; exact hB2.out.size)
      have hb' := hid (show w.heap.size ≤ r + 1 from by rw [← hr0]; have := hB2.out.size; omega)
      rw [← hr0] at hb
      have hA3 := hid hA
      have hB3 := hid (bup hb hB2.out)
      clear hA hb hr0 hB2
      try (rename_i hKK; refine hKK _ _ ?_; clear hKK)
      go_wp2_with fail
      refine (hR.out _ _ _ _ _ hA3.out).mono ?_
      rintro e w' ⟨sr, rfl, rfl⟩
      try (rename_i hKK; refine hKK _ _ ?_; clear hKK)
      go_wp2_with fail
      refine (hS.out _).mono ?_
      rintro e W4 ⟨rfl, hb⟩
      have hB4 := hid (bup hb hB3.out)
      have hA4 := hid (hA3.out.on hb)
      clear hb hB3 hA3
      try (rename_i hKK; refine hKK _ _ ?_; clear hKK)
      go_wp2_with fail
      refine (hW.out _ _ _ _ _ hA4.out).mono ?_
      rintro e W5 ⟨D', rfl, hA, hT⟩
      have hA5 := hid hA
      have hB5 := hid (dk_below hB4.out hT hr.out hb'.out)
      clear hA hT hA4 hB4
      try (rename_i hKK; refine hKK _ _ ?_; clear hKK)
      go_wp2_with (first
        | ((with_reducible refine at_slot (some 55) ?_); refine wpList_make_zeros rfl _ _ 51 rfl 5 i0 Try.underlying51 hi hz0 hzz hby _ L rfl rfl rfl (by omega) x hx'.out ?_; intro W6 hRz hb; have hcv := run_convert_row (P := Try.prog) (w := W6) (e := 5) 51 9 Try.underlying51 Try.underlying5 Try.underlying9 hxs'.out.symm hRz; have hcv' := hid hcv; clear hcv hRz; have hB6 := hid (bup hb hB5.out); have hA6 := hid (hA5.out.on hb); clear hb hB5 hA5)
        | ((with_reducible refine at_slot (some 56) ?_); refine wpList_convert rfl 51 9 (.tmp 55) rfl _ (.string x) _ rfl (by exact hcv'.out) ?_)
        | fail)
      clear hcv'
      refine (hX.out _ _ _ _ _ hA6.out).mono ?_
      rintro e W7 ⟨D', rfl, hA, hT⟩
      have hA7 := hid hA
      have hB7 := hid (dk_below hB6.out hT hr.out hb'.out)
      clear hA hT hA6 hB6
      try (rename_i hKK; refine hKK _ _ ?_; clear hKK)
      go_wp2_with (first
        | (go_at_call 17; refine (errNum_any _ _).mono ?_; rintro e w' ⟨rfl, rfl⟩)
        | fail)
      go_ret
      exact ⟨rfl, hB7.out⟩
  · as_aux_lemma =>
      have hN := hid (fun V => dkNew_code n 700 (.inr ⟨by omega, rfl⟩) V)
      have hN4 := hid (fun V => dkNew_yes 4 (by decide) (by decide) V)
      have hR := hid (fun d r b D V (h : DiskAt V d r b 4 D) => dkRead_code at_ 0 d r b 4 D (.inl ⟨i1, by omega, rfl⟩) V h)
      have hW := hid (fun d r b D V (h : DiskAt V d r b 4 D) => dkWrite_code at_ 0 (secT 1) d r b 4 D (.inl ⟨i1, by omega, secT_size 1, rfl⟩) V h)
      have hX := hid (fun d r b D V (h : DiskAt V d r b 4 D) => dkWrite_code 1 700 x d r b 4 D (.inr ⟨fun h => hl (by rw [← hxs'.out]; exact h.2.2), rfl⟩) V h)
      have m3 : ¬ (1 ≤ n) := by omega
      have hl2 : ((L : Int) == 64) = false := beq_eq_false_iff_ne.2 (by omega)
      clear hl
      go_enter Try.func8, Try.ntmps8
      go_wp2_with fail
      refine hAw.out.mono ?_
      rintro e W1 ⟨rfl, hb⟩
      have hB1 := hid hb
      clear hb hAw
      try (rename_i hKK; refine hKK _ _ ?_; clear hKK)
      go_wp2_with fail
      refine (hN.out _).mono ?_
      rintro e W2 ⟨p, rfl, hb⟩
      have hB2 := hid (bup hb hB1.out)
      clear hb hB1
      try (rename_i hKK; refine hKK _ _ ?_; clear hKK)
      go_wp2_with fail
      refine (hN4.out _).mono ?_
      rintro e W3 ⟨rfl, hA, hb⟩
      obtain ⟨r, hr0⟩ : ∃ r, W2.heap.size = r := ⟨_, rfl⟩
      rw [hr0] at hA hb ⊢
      have hr := hid (show w.heap.size ≤ r from by rw [← hr0]; exact hB2.out.size)
      have hb' := hid (show w.heap.size ≤ r + 1 from by rw [← hr0]; have := hB2.out.size; omega)
      rw [← hr0] at hb
      have hA3 := hid hA
      have hB3 := hid (bup hb hB2.out)
      clear hA hb hr0 hB2
      try (rename_i hKK; refine hKK _ _ ?_; clear hKK)
      go_wp2_with fail
      refine (hR.out _ _ _ _ _ hA3.out).mono ?_
      rintro e w' ⟨sr, rfl, rfl⟩
      try (rename_i hKK; refine hKK _ _ ?_; clear hKK)
      go_wp2_with fail
      refine (hS.out _).mono ?_
      rintro e W4 ⟨rfl, hb⟩
      have hB4 := hid (bup hb hB3.out)
      have hA4 := hid (hA3.out.on hb)
      clear hb hB3 hA3
      try (rename_i hKK; refine hKK _ _ ?_; clear hKK)
      go_wp2_with fail
      refine (hW.out _ _ _ _ _ hA4.out).mono ?_
      rintro e W5 ⟨D', rfl, hA, hT⟩
      have hA5 := hid hA
      have hB5 := hid (dk_below hB4.out hT hr.out hb'.out)
      clear hA hT hA4 hB4
      try (rename_i hKK; refine hKK _ _ ?_; clear hKK)
      go_wp2_with (first
        | ((with_reducible refine at_slot (some 55) ?_); refine wpList_make_zeros rfl _ _ 51 rfl 5 i0 Try.underlying51 hi hz0 hzz hby _ L rfl rfl rfl (by omega) x hx'.out ?_; intro W6 hRz hb; have hcv := run_convert_row (P := Try.prog) (w := W6) (e := 5) 51 9 Try.underlying51 Try.underlying5 Try.underlying9 hxs'.out.symm hRz; have hcv' := hid hcv; clear hcv hRz; have hB6 := hid (bup hb hB5.out); have hA6 := hid (hA5.out.on hb); clear hb hB5 hA5)
        | ((with_reducible refine at_slot (some 56) ?_); refine wpList_convert rfl 51 9 (.tmp 55) rfl _ (.string x) _ rfl (by exact hcv'.out) ?_)
        | fail)
      clear hcv'
      refine (hX.out _ _ _ _ _ hA6.out).mono ?_
      rintro e W7 ⟨D', rfl, hA, hT⟩
      have hA7 := hid hA
      have hB7 := hid (dk_below hB6.out hT hr.out hb'.out)
      clear hA hT hA6 hB6
      try (rename_i hKK; refine hKK _ _ ?_; clear hKK)
      go_wp2_with (first
        | (go_at_call 17; refine (errNum_any _ _).mono ?_; rintro e w' ⟨rfl, rfl⟩)
        | fail)
      go_ret
      exact ⟨rfl, hB7.out⟩
  · as_aux_lemma =>
      have hN := hid (fun V => dkNew_code n 700 (.inr ⟨by omega, rfl⟩) V)
      have hN4 := hid (fun V => dkNew_yes 4 (by decide) (by decide) V)
      have hR := hid (fun d r b D V (h : DiskAt V d r b 4 D) => dkRead_code at_ 700 d r b 4 D (.inr ⟨by omega, rfl⟩) V h)
      have hW := hid (fun d r b D V (h : DiskAt V d r b 4 D) => dkWrite_code at_ 700 (secT 1) d r b 4 D (.inr ⟨by omega, rfl⟩) V h)
      have hX := hid (fun d r b D V (h : DiskAt V d r b 4 D) => dkWrite_code 1 0 x d r b 4 D (.inl ⟨by omega, by omega, by rw [hxs'.out]; exact hl, rfl⟩) V h)
      have m3 : ¬ (1 ≤ n) := by omega
      have i3 : ¬ (0 ≤ at_) := by omega
      have hl2 : ((L : Int) == 64) = true := beq_iff_eq.2 (by omega)
      clear hl
      go_enter Try.func8, Try.ntmps8
      go_wp2_with fail
      refine hAw.out.mono ?_
      rintro e W1 ⟨rfl, hb⟩
      have hB1 := hid hb
      clear hb hAw
      try (rename_i hKK; refine hKK _ _ ?_; clear hKK)
      go_wp2_with fail
      refine (hN.out _).mono ?_
      rintro e W2 ⟨p, rfl, hb⟩
      have hB2 := hid (bup hb hB1.out)
      clear hb hB1
      try (rename_i hKK; refine hKK _ _ ?_; clear hKK)
      go_wp2_with fail
      refine (hN4.out _).mono ?_
      rintro e W3 ⟨rfl, hA, hb⟩
      obtain ⟨r, hr0⟩ : ∃ r, W2.heap.size = r := ⟨_, rfl⟩
      rw [hr0] at hA hb ⊢
      have hr := hid (show w.heap.size ≤ r from by rw [← hr0]; exact hB2.out.size)
      have hb' := hid (show w.heap.size ≤ r + 1 from by rw [← hr0]; have := hB2.out.size; omega)
      rw [← hr0] at hb
      have hA3 := hid hA
      have hB3 := hid (bup hb hB2.out)
      clear hA hb hr0 hB2
      try (rename_i hKK; refine hKK _ _ ?_; clear hKK)
      go_wp2_with fail
      refine (hR.out _ _ _ _ _ hA3.out).mono ?_
      rintro e w' ⟨sr, rfl, rfl⟩
      try (rename_i hKK; refine hKK _ _ ?_; clear hKK)
      go_wp2_with fail
      refine (hS.out _).mono ?_
      rintro e W4 ⟨rfl, hb⟩
      have hB4 := hid (bup hb hB3.out)
      have hA4 := hid (hA3.out.on hb)
      clear hb hB3 hA3
      try (rename_i hKK; refine hKK _ _ ?_; clear hKK)
      go_wp2_with fail
      refine (hW.out _ _ _ _ _ hA4.out).mono ?_
      rintro e W5 ⟨D', rfl, hA, hT⟩
      have hA5 := hid hA
      have hB5 := hid (dk_below hB4.out hT hr.out hb'.out)
      clear hA hT hA4 hB4
      try (rename_i hKK; refine hKK _ _ ?_; clear hKK)
      go_wp2_with (first
        | ((with_reducible refine at_slot (some 55) ?_); refine wpList_make_zeros rfl _ _ 51 rfl 5 i0 Try.underlying51 hi hz0 hzz hby _ L rfl rfl rfl (by omega) x hx'.out ?_; intro W6 hRz hb; have hcv := run_convert_row (P := Try.prog) (w := W6) (e := 5) 51 9 Try.underlying51 Try.underlying5 Try.underlying9 hxs'.out.symm hRz; have hcv' := hid hcv; clear hcv hRz; have hB6 := hid (bup hb hB5.out); have hA6 := hid (hA5.out.on hb); clear hb hB5 hA5)
        | ((with_reducible refine at_slot (some 56) ?_); refine wpList_convert rfl 51 9 (.tmp 55) rfl _ (.string x) _ rfl (by exact hcv'.out) ?_)
        | fail)
      clear hcv'
      refine (hX.out _ _ _ _ _ hA6.out).mono ?_
      rintro e W7 ⟨D', rfl, hA, hT⟩
      have hA7 := hid hA
      have hB7 := hid (dk_below hB6.out hT hr.out hb'.out)
      clear hA hT hA6 hB6
      try (rename_i hKK; refine hKK _ _ ?_; clear hKK)
      go_wp2_with (first
        | (go_at_call 17; refine (errNum_any _ _).mono ?_; rintro e w' ⟨rfl, rfl⟩)
        | fail)
      go_ret
      exact ⟨rfl, hB7.out⟩
  · as_aux_lemma =>
      have hN := hid (fun V => dkNew_code n 700 (.inr ⟨by omega, rfl⟩) V)
      have hN4 := hid (fun V => dkNew_yes 4 (by decide) (by decide) V)
      have hR := hid (fun d r b D V (h : DiskAt V d r b 4 D) => dkRead_code at_ 700 d r b 4 D (.inr ⟨by omega, rfl⟩) V h)
      have hW := hid (fun d r b D V (h : DiskAt V d r b 4 D) => dkWrite_code at_ 700 (secT 1) d r b 4 D (.inr ⟨by omega, rfl⟩) V h)
      have hX := hid (fun d r b D V (h : DiskAt V d r b 4 D) => dkWrite_code 1 700 x d r b 4 D (.inr ⟨fun h => hl (by rw [← hxs'.out]; exact h.2.2), rfl⟩) V h)
      have m3 : ¬ (1 ≤ n) := by omega
      have i3 : ¬ (0 ≤ at_) := by omega
      have hl2 : ((L : Int) == 64) = false := beq_eq_false_iff_ne.2 (by omega)
      clear hl
      go_enter Try.func8, Try.ntmps8
      go_wp2_with fail
      refine hAw.out.mono ?_
      rintro e W1 ⟨rfl, hb⟩
      have hB1 := hid hb
      clear hb hAw
      try (rename_i hKK; refine hKK _ _ ?_; clear hKK)
      go_wp2_with fail
      refine (hN.out _).mono ?_
      rintro e W2 ⟨p, rfl, hb⟩
      have hB2 := hid (bup hb hB1.out)
      clear hb hB1
      try (rename_i hKK; refine hKK _ _ ?_; clear hKK)
      go_wp2_with fail
      refine (hN4.out _).mono ?_
      rintro e W3 ⟨rfl, hA, hb⟩
      obtain ⟨r, hr0⟩ : ∃ r, W2.heap.size = r := ⟨_, rfl⟩
      rw [hr0] at hA hb ⊢
      have hr := hid (show w.heap.size ≤ r from by rw [← hr0]; exact hB2.out.size)
      have hb' := hid (show w.heap.size ≤ r + 1 from by rw [← hr0]; have := hB2.out.size; omega)
      rw [← hr0] at hb
      have hA3 := hid hA
      have hB3 := hid (bup hb hB2.out)
      clear hA hb hr0 hB2
      try (rename_i hKK; refine hKK _ _ ?_; clear hKK)
      go_wp2_with fail
      refine (hR.out _ _ _ _ _ hA3.out).mono ?_
      rintro e w' ⟨sr, rfl, rfl⟩
      try (rename_i hKK; refine hKK _ _ ?_; clear hKK)
      go_wp2_with fail
      refine (hS.out _).mono ?_
      rintro e W4 ⟨rfl, hb⟩
      have hB4 := hid (bup hb hB3.out)
      have hA4 := hid (hA3.out.on hb)
      clear hb hB3 hA3
      try (rename_i hKK; refine hKK _ _ ?_; clear hKK)
      go_wp2_with fail
      refine (hW.out _ _ _ _ _ hA4.out).mono ?_
      rintro e W5 ⟨D', rfl, hA, hT⟩
      have hA5 := hid hA
      have hB5 := hid (dk_below hB4.out hT hr.out hb'.out)
      clear hA hT hA4 hB4
      try (rename_i hKK; refine hKK _ _ ?_; clear hKK)
      go_wp2_with (first
        | ((with_reducible refine at_slot (some 55) ?_); refine wpList_make_zeros rfl _ _ 51 rfl 5 i0 Try.underlying51 hi hz0 hzz hby _ L rfl rfl rfl (by omega) x hx'.out ?_; intro W6 hRz hb; have hcv := run_convert_row (P := Try.prog) (w := W6) (e := 5) 51 9 Try.underlying51 Try.underlying5 Try.underlying9 hxs'.out.symm hRz; have hcv' := hid hcv; clear hcv hRz; have hB6 := hid (bup hb hB5.out); have hA6 := hid (hA5.out.on hb); clear hb hB5 hA5)
        | ((with_reducible refine at_slot (some 56) ?_); refine wpList_convert rfl 51 9 (.tmp 55) rfl _ (.string x) _ rfl (by exact hcv'.out) ?_)
        | fail)
      clear hcv'
      refine (hX.out _ _ _ _ _ hA6.out).mono ?_
      rintro e W7 ⟨D', rfl, hA, hT⟩
      have hA7 := hid hA
      have hB7 := hid (dk_below hB6.out hT hr.out hb'.out)
      clear hA hT hA6 hB6
      try (rename_i hKK; refine hKK _ _ ?_; clear hKK)
      go_wp2_with (first
        | (go_at_call 17; refine (errNum_any _ _).mono ?_; rintro e w' ⟨rfl, rfl⟩)
        | fail)
      go_ret
      exact ⟨rfl, hB7.out⟩
  · as_aux_lemma =>
      have hN := hid (fun V => dkNew_code n 700 (.inr ⟨by omega, rfl⟩) V)
      have hN4 := hid (fun V => dkNew_yes 4 (by decide) (by decide) V)
      have hR := hid (fun d r b D V (h : DiskAt V d r b 4 D) => dkRead_code at_ 700 d r b 4 D (.inr ⟨by omega, rfl⟩) V h)
      have hW := hid (fun d r b D V (h : DiskAt V d r b 4 D) => dkWrite_code at_ 700 (secT 1) d r b 4 D (.inr ⟨by omega, rfl⟩) V h)
      have hX := hid (fun d r b D V (h : DiskAt V d r b 4 D) => dkWrite_code 1 0 x d r b 4 D (.inl ⟨by omega, by omega, by rw [hxs'.out]; exact hl, rfl⟩) V h)
      have m3 : ¬ (1 ≤ n) := by omega
      have i3 : ¬ (at_ < 4) := by omega
      have i4 : decide (at_ < 4) = false := decide_eq_false i3
      have hl2 : ((L : Int) == 64) = true := beq_iff_eq.2 (by omega)
      clear hl
      go_enter Try.func8, Try.ntmps8
      go_wp2_with fail
      refine hAw.out.mono ?_
      rintro e W1 ⟨rfl, hb⟩
      have hB1 := hid hb
      clear hb hAw
      try (rename_i hKK; refine hKK _ _ ?_; clear hKK)
      go_wp2_with fail
      refine (hN.out _).mono ?_
      rintro e W2 ⟨p, rfl, hb⟩
      have hB2 := hid (bup hb hB1.out)
      clear hb hB1
      try (rename_i hKK; refine hKK _ _ ?_; clear hKK)
      go_wp2_with fail
      refine (hN4.out _).mono ?_
      rintro e W3 ⟨rfl, hA, hb⟩
      obtain ⟨r, hr0⟩ : ∃ r, W2.heap.size = r := ⟨_, rfl⟩
      rw [hr0] at hA hb ⊢
      have hr := hid (show w.heap.size ≤ r from by rw [← hr0]; exact hB2.out.size)
      have hb' := hid (show w.heap.size ≤ r + 1 from by rw [← hr0]; have := hB2.out.size; omega)
      rw [← hr0] at hb
      have hA3 := hid hA
      have hB3 := hid (bup hb hB2.out)
      clear hA hb hr0 hB2
      try (rename_i hKK; refine hKK _ _ ?_; clear hKK)
      go_wp2_with fail
      refine (hR.out _ _ _ _ _ hA3.out).mono ?_
      rintro e w' ⟨sr, rfl, rfl⟩
      try (rename_i hKK; refine hKK _ _ ?_; clear hKK)
      go_wp2_with fail
      refine (hS.out _).mono ?_
      rintro e W4 ⟨rfl, hb⟩
      have hB4 := hid (bup hb hB3.out)
      have hA4 := hid (hA3.out.on hb)
      clear hb hB3 hA3
      try (rename_i hKK; refine hKK _ _ ?_; clear hKK)
      go_wp2_with fail
      refine (hW.out _ _ _ _ _ hA4.out).mono ?_
      rintro e W5 ⟨D', rfl, hA, hT⟩
      have hA5 := hid hA
      have hB5 := hid (dk_below hB4.out hT hr.out hb'.out)
      clear hA hT hA4 hB4
      try (rename_i hKK; refine hKK _ _ ?_; clear hKK)
      go_wp2_with (first
        | ((with_reducible refine at_slot (some 55) ?_); refine wpList_make_zeros rfl _ _ 51 rfl 5 i0 Try.underlying51 hi hz0 hzz hby _ L rfl rfl rfl (by omega) x hx'.out ?_; intro W6 hRz hb; have hcv := run_convert_row (P := Try.prog) (w := W6) (e := 5) 51 9 Try.underlying51 Try.underlying5 Try.underlying9 hxs'.out.symm hRz; have hcv' := hid hcv; clear hcv hRz; have hB6 := hid (bup hb hB5.out); have hA6 := hid (hA5.out.on hb); clear hb hB5 hA5)
        | ((with_reducible refine at_slot (some 56) ?_); refine wpList_convert rfl 51 9 (.tmp 55) rfl _ (.string x) _ rfl (by exact hcv'.out) ?_)
        | fail)
      clear hcv'
      refine (hX.out _ _ _ _ _ hA6.out).mono ?_
      rintro e W7 ⟨D', rfl, hA, hT⟩
      have hA7 := hid hA
      have hB7 := hid (dk_below hB6.out hT hr.out hb'.out)
      clear hA hT hA6 hB6
      try (rename_i hKK; refine hKK _ _ ?_; clear hKK)
      go_wp2_with (first
        | (go_at_call 17; refine (errNum_any _ _).mono ?_; rintro e w' ⟨rfl, rfl⟩)
        | fail)
      go_ret
      exact ⟨rfl, hB7.out⟩
  · as_aux_lemma =>
      have hN := hid (fun V => dkNew_code n 700 (.inr ⟨by omega, rfl⟩) V)
      have hN4 := hid (fun V => dkNew_yes 4 (by decide) (by decide) V)
      have hR := hid (fun d r b D V (h : DiskAt V d r b 4 D) => dkRead_code at_ 700 d r b 4 D (.inr ⟨by omega, rfl⟩) V h)
      have hW := hid (fun d r b D V (h : DiskAt V d r b 4 D) => dkWrite_code at_ 700 (secT 1) d r b 4 D (.inr ⟨by omega, rfl⟩) V h)
      have hX := hid (fun d r b D V (h : DiskAt V d r b 4 D) => dkWrite_code 1 700 x d r b 4 D (.inr ⟨fun h => hl (by rw [← hxs'.out]; exact h.2.2), rfl⟩) V h)
      have m3 : ¬ (1 ≤ n) := by omega
      have i3 : ¬ (at_ < 4) := by omega
      have i4 : decide (at_ < 4) = false := decide_eq_false i3
      have hl2 : ((L : Int) == 64) = false := beq_eq_false_iff_ne.2 (by omega)
      clear hl
      go_enter Try.func8, Try.ntmps8
      go_wp2_with fail
      refine hAw.out.mono ?_
      rintro e W1 ⟨rfl, hb⟩
      have hB1 := hid hb
      clear hb hAw
      try (rename_i hKK; refine hKK _ _ ?_; clear hKK)
      go_wp2_with fail
      refine (hN.out _).mono ?_
      rintro e W2 ⟨p, rfl, hb⟩
      have hB2 := hid (bup hb hB1.out)
      clear hb hB1
      try (rename_i hKK; refine hKK _ _ ?_; clear hKK)
      go_wp2_with fail
      refine (hN4.out _).mono ?_
      rintro e W3 ⟨rfl, hA, hb⟩
      obtain ⟨r, hr0⟩ : ∃ r, W2.heap.size = r := ⟨_, rfl⟩
      rw [hr0] at hA hb ⊢
      have hr := hid (show w.heap.size ≤ r from by rw [← hr0]; exact hB2.out.size)
      have hb' := hid (show w.heap.size ≤ r + 1 from by rw [← hr0]; have := hB2.out.size; omega)
      rw [← hr0] at hb
      have hA3 := hid hA
      have hB3 := hid (bup hb hB2.out)
      clear hA hb hr0 hB2
      try (rename_i hKK; refine hKK _ _ ?_; clear hKK)
      go_wp2_with fail
      refine (hR.out _ _ _ _ _ hA3.out).mono ?_
      rintro e w' ⟨sr, rfl, rfl⟩
      try (rename_i hKK; refine hKK _ _ ?_; clear hKK)
      go_wp2_with fail
      refine (hS.out _).mono ?_
      rintro e W4 ⟨rfl, hb⟩
      have hB4 := hid (bup hb hB3.out)
      have hA4 := hid (hA3.out.on hb)
      clear hb hB3 hA3
      try (rename_i hKK; refine hKK _ _ ?_; clear hKK)
      go_wp2_with fail
      refine (hW.out _ _ _ _ _ hA4.out).mono ?_
      rintro e W5 ⟨D', rfl, hA, hT⟩
      have hA5 := hid hA
      have hB5 := hid (dk_below hB4.out hT hr.out hb'.out)
      clear hA hT hA4 hB4
      try (rename_i hKK; refine hKK _ _ ?_; clear hKK)
      go_wp2_with (first
        | ((with_reducible refine at_slot (some 55) ?_); refine wpList_make_zeros rfl _ _ 51 rfl 5 i0 Try.underlying51 hi hz0 hzz hby _ L rfl rfl rfl (by omega) x hx'.out ?_; intro W6 hRz hb; have hcv := run_convert_row (P := Try.prog) (w := W6) (e := 5) 51 9 Try.underlying51 Try.underlying5 Try.underlying9 hxs'.out.symm hRz; have hcv' := hid hcv; clear hcv hRz; have hB6 := hid (bup hb hB5.out); have hA6 := hid (hA5.out.on hb); clear hb hB5 hA5)
        | ((with_reducible refine at_slot (some 56) ?_); refine wpList_convert rfl 51 9 (.tmp 55) rfl _ (.string x) _ rfl (by exact hcv'.out) ?_)
        | fail)
      clear hcv'
      refine (hX.out _ _ _ _ _ hA6.out).mono ?_
      rintro e W7 ⟨D', rfl, hA, hT⟩
      have hA7 := hid hA
      have hB7 := hid (dk_below hB6.out hT hr.out hb'.out)
      clear hA hT hA6 hB6
      try (rename_i hKK; refine hKK _ _ ?_; clear hKK)
      go_wp2_with (first
        | (go_at_call 17; refine (errNum_any _ _).mono ?_; rintro e w' ⟨rfl, rfl⟩)
        | fail)
      go_ret
      exact ⟨rfl, hB7.out⟩
  · as_aux_lemma =>
      have hN := hid (fun V => dkNew_code n 700 (.inr ⟨by omega, rfl⟩) V)
      have hN4 := hid (fun V => dkNew_yes 4 (by decide) (by decide) V)
      have hR := hid (fun d r b D V (h : DiskAt V d r b 4 D) => dkRead_code at_ 0 d r b 4 D (.inl ⟨i1, by omega, rfl⟩) V h)
      have hW := hid (fun d r b D V (h : DiskAt V d r b 4 D) => dkWrite_code at_ 0 (secT 1) d r b 4 D (.inl ⟨i1, by omega, secT_size 1, rfl⟩) V h)
      have hX := hid (fun d r b D V (h : DiskAt V d r b 4 D) => dkWrite_code 1 0 x d r b 4 D (.inl ⟨by omega, by omega, by rw [hxs'.out]; exact hl, rfl⟩) V h)
      have m3 : ¬ (n ≤ 256) := by omega
      have m4 : decide (n ≤ 256) = false := decide_eq_false m3
      have hl2 : ((L : Int) == 64) = true := beq_iff_eq.2 (by omega)
      clear hl
      go_enter Try.func8, Try.ntmps8
      go_wp2_with fail
      refine hAw.out.mono ?_
      rintro e W1 ⟨rfl, hb⟩
      have hB1 := hid hb
      clear hb hAw
      try (rename_i hKK; refine hKK _ _ ?_; clear hKK)
      go_wp2_with fail
      refine (hN.out _).mono ?_
      rintro e W2 ⟨p, rfl, hb⟩
      have hB2 := hid (bup hb hB1.out)
      clear hb hB1
      try (rename_i hKK; refine hKK _ _ ?_; clear hKK)
      go_wp2_with fail
      refine (hN4.out _).mono ?_
      rintro e W3 ⟨rfl, hA, hb⟩
      obtain ⟨r, hr0⟩ : ∃ r, W2.heap.size = r := ⟨_, rfl⟩
      rw [hr0] at hA hb ⊢
      have hr := hid (show w.heap.size ≤ r from by rw [← hr0]; exact hB2.out.size)
      have hb' := hid (show w.heap.size ≤ r + 1 from by rw [← hr0]; have := hB2.out.size; omega)
      rw [← hr0] at hb
      have hA3 := hid hA
      have hB3 := hid (bup hb hB2.out)
      clear hA hb hr0 hB2
      try (rename_i hKK; refine hKK _ _ ?_; clear hKK)
      go_wp2_with fail
      refine (hR.out _ _ _ _ _ hA3.out).mono ?_
      rintro e w' ⟨sr, rfl, rfl⟩
      try (rename_i hKK; refine hKK _ _ ?_; clear hKK)
      go_wp2_with fail
      refine (hS.out _).mono ?_
      rintro e W4 ⟨rfl, hb⟩
      have hB4 := hid (bup hb hB3.out)
      have hA4 := hid (hA3.out.on hb)
      clear hb hB3 hA3
      try (rename_i hKK; refine hKK _ _ ?_; clear hKK)
      go_wp2_with fail
      refine (hW.out _ _ _ _ _ hA4.out).mono ?_
      rintro e W5 ⟨D', rfl, hA, hT⟩
      have hA5 := hid hA
      have hB5 := hid (dk_below hB4.out hT hr.out hb'.out)
      clear hA hT hA4 hB4
      try (rename_i hKK; refine hKK _ _ ?_; clear hKK)
      go_wp2_with (first
        | ((with_reducible refine at_slot (some 55) ?_); refine wpList_make_zeros rfl _ _ 51 rfl 5 i0 Try.underlying51 hi hz0 hzz hby _ L rfl rfl rfl (by omega) x hx'.out ?_; intro W6 hRz hb; have hcv := run_convert_row (P := Try.prog) (w := W6) (e := 5) 51 9 Try.underlying51 Try.underlying5 Try.underlying9 hxs'.out.symm hRz; have hcv' := hid hcv; clear hcv hRz; have hB6 := hid (bup hb hB5.out); have hA6 := hid (hA5.out.on hb); clear hb hB5 hA5)
        | ((with_reducible refine at_slot (some 56) ?_); refine wpList_convert rfl 51 9 (.tmp 55) rfl _ (.string x) _ rfl (by exact hcv'.out) ?_)
        | fail)
      clear hcv'
      refine (hX.out _ _ _ _ _ hA6.out).mono ?_
      rintro e W7 ⟨D', rfl, hA, hT⟩
      have hA7 := hid hA
      have hB7 := hid (dk_below hB6.out hT hr.out hb'.out)
      clear hA hT hA6 hB6
      try (rename_i hKK; refine hKK _ _ ?_; clear hKK)
      go_wp2_with (first
        | (go_at_call 17; refine (errNum_any _ _).mono ?_; rintro e w' ⟨rfl, rfl⟩)
        | fail)
      go_ret
      exact ⟨rfl, hB7.out⟩
  · as_aux_lemma =>
      have hN := hid (fun V => dkNew_code n 700 (.inr ⟨by omega, rfl⟩) V)
      have hN4 := hid (fun V => dkNew_yes 4 (by decide) (by decide) V)
      have hR := hid (fun d r b D V (h : DiskAt V d r b 4 D) => dkRead_code at_ 0 d r b 4 D (.inl ⟨i1, by omega, rfl⟩) V h)
      have hW := hid (fun d r b D V (h : DiskAt V d r b 4 D) => dkWrite_code at_ 0 (secT 1) d r b 4 D (.inl ⟨i1, by omega, secT_size 1, rfl⟩) V h)
      have hX := hid (fun d r b D V (h : DiskAt V d r b 4 D) => dkWrite_code 1 700 x d r b 4 D (.inr ⟨fun h => hl (by rw [← hxs'.out]; exact h.2.2), rfl⟩) V h)
      have m3 : ¬ (n ≤ 256) := by omega
      have m4 : decide (n ≤ 256) = false := decide_eq_false m3
      have hl2 : ((L : Int) == 64) = false := beq_eq_false_iff_ne.2 (by omega)
      clear hl
      go_enter Try.func8, Try.ntmps8
      go_wp2_with fail
      refine hAw.out.mono ?_
      rintro e W1 ⟨rfl, hb⟩
      have hB1 := hid hb
      clear hb hAw
      try (rename_i hKK; refine hKK _ _ ?_; clear hKK)
      go_wp2_with fail
      refine (hN.out _).mono ?_
      rintro e W2 ⟨p, rfl, hb⟩
      have hB2 := hid (bup hb hB1.out)
      clear hb hB1
      try (rename_i hKK; refine hKK _ _ ?_; clear hKK)
      go_wp2_with fail
      refine (hN4.out _).mono ?_
      rintro e W3 ⟨rfl, hA, hb⟩
      obtain ⟨r, hr0⟩ : ∃ r, W2.heap.size = r := ⟨_, rfl⟩
      rw [hr0] at hA hb ⊢
      have hr := hid (show w.heap.size ≤ r from by rw [← hr0]; exact hB2.out.size)
      have hb' := hid (show w.heap.size ≤ r + 1 from by rw [← hr0]; have := hB2.out.size; omega)
      rw [← hr0] at hb
      have hA3 := hid hA
      have hB3 := hid (bup hb hB2.out)
      clear hA hb hr0 hB2
      try (rename_i hKK; refine hKK _ _ ?_; clear hKK)
      go_wp2_with fail
      refine (hR.out _ _ _ _ _ hA3.out).mono ?_
      rintro e w' ⟨sr, rfl, rfl⟩
      try (rename_i hKK; refine hKK _ _ ?_; clear hKK)
      go_wp2_with fail
      refine (hS.out _).mono ?_
      rintro e W4 ⟨rfl, hb⟩
      have hB4 := hid (bup hb hB3.out)
      have hA4 := hid (hA3.out.on hb)
      clear hb hB3 hA3
      try (rename_i hKK; refine hKK _ _ ?_; clear hKK)
      go_wp2_with fail
      refine (hW.out _ _ _ _ _ hA4.out).mono ?_
      rintro e W5 ⟨D', rfl, hA, hT⟩
      have hA5 := hid hA
      have hB5 := hid (dk_below hB4.out hT hr.out hb'.out)
      clear hA hT hA4 hB4
      try (rename_i hKK; refine hKK _ _ ?_; clear hKK)
      go_wp2_with (first
        | ((with_reducible refine at_slot (some 55) ?_); refine wpList_make_zeros rfl _ _ 51 rfl 5 i0 Try.underlying51 hi hz0 hzz hby _ L rfl rfl rfl (by omega) x hx'.out ?_; intro W6 hRz hb; have hcv := run_convert_row (P := Try.prog) (w := W6) (e := 5) 51 9 Try.underlying51 Try.underlying5 Try.underlying9 hxs'.out.symm hRz; have hcv' := hid hcv; clear hcv hRz; have hB6 := hid (bup hb hB5.out); have hA6 := hid (hA5.out.on hb); clear hb hB5 hA5)
        | ((with_reducible refine at_slot (some 56) ?_); refine wpList_convert rfl 51 9 (.tmp 55) rfl _ (.string x) _ rfl (by exact hcv'.out) ?_)
        | fail)
      clear hcv'
      refine (hX.out _ _ _ _ _ hA6.out).mono ?_
      rintro e W7 ⟨D', rfl, hA, hT⟩
      have hA7 := hid hA
      have hB7 := hid (dk_below hB6.out hT hr.out hb'.out)
      clear hA hT hA6 hB6
      try (rename_i hKK; refine hKK _ _ ?_; clear hKK)
      go_wp2_with (first
        | (go_at_call 17; refine (errNum_any _ _).mono ?_; rintro e w' ⟨rfl, rfl⟩)
        | fail)
      go_ret
      exact ⟨rfl, hB7.out⟩
  · as_aux_lemma =>
      have hN := hid (fun V => dkNew_code n 700 (.inr ⟨by omega, rfl⟩) V)
      have hN4 := hid (fun V => dkNew_yes 4 (by decide) (by decide) V)
      have hR := hid (fun d r b D V (h : DiskAt V d r b 4 D) => dkRead_code at_ 700 d r b 4 D (.inr ⟨by omega, rfl⟩) V h)
      have hW := hid (fun d r b D V (h : DiskAt V d r b 4 D) => dkWrite_code at_ 700 (secT 1) d r b 4 D (.inr ⟨by omega, rfl⟩) V h)
      have hX := hid (fun d r b D V (h : DiskAt V d r b 4 D) => dkWrite_code 1 0 x d r b 4 D (.inl ⟨by omega, by omega, by rw [hxs'.out]; exact hl, rfl⟩) V h)
      have m3 : ¬ (n ≤ 256) := by omega
      have m4 : decide (n ≤ 256) = false := decide_eq_false m3
      have i3 : ¬ (0 ≤ at_) := by omega
      have hl2 : ((L : Int) == 64) = true := beq_iff_eq.2 (by omega)
      clear hl
      go_enter Try.func8, Try.ntmps8
      go_wp2_with fail
      refine hAw.out.mono ?_
      rintro e W1 ⟨rfl, hb⟩
      have hB1 := hid hb
      clear hb hAw
      try (rename_i hKK; refine hKK _ _ ?_; clear hKK)
      go_wp2_with fail
      refine (hN.out _).mono ?_
      rintro e W2 ⟨p, rfl, hb⟩
      have hB2 := hid (bup hb hB1.out)
      clear hb hB1
      try (rename_i hKK; refine hKK _ _ ?_; clear hKK)
      go_wp2_with fail
      refine (hN4.out _).mono ?_
      rintro e W3 ⟨rfl, hA, hb⟩
      obtain ⟨r, hr0⟩ : ∃ r, W2.heap.size = r := ⟨_, rfl⟩
      rw [hr0] at hA hb ⊢
      have hr := hid (show w.heap.size ≤ r from by rw [← hr0]; exact hB2.out.size)
      have hb' := hid (show w.heap.size ≤ r + 1 from by rw [← hr0]; have := hB2.out.size; omega)
      rw [← hr0] at hb
      have hA3 := hid hA
      have hB3 := hid (bup hb hB2.out)
      clear hA hb hr0 hB2
      try (rename_i hKK; refine hKK _ _ ?_; clear hKK)
      go_wp2_with fail
      refine (hR.out _ _ _ _ _ hA3.out).mono ?_
      rintro e w' ⟨sr, rfl, rfl⟩
      try (rename_i hKK; refine hKK _ _ ?_; clear hKK)
      go_wp2_with fail
      refine (hS.out _).mono ?_
      rintro e W4 ⟨rfl, hb⟩
      have hB4 := hid (bup hb hB3.out)
      have hA4 := hid (hA3.out.on hb)
      clear hb hB3 hA3
      try (rename_i hKK; refine hKK _ _ ?_; clear hKK)
      go_wp2_with fail
      refine (hW.out _ _ _ _ _ hA4.out).mono ?_
      rintro e W5 ⟨D', rfl, hA, hT⟩
      have hA5 := hid hA
      have hB5 := hid (dk_below hB4.out hT hr.out hb'.out)
      clear hA hT hA4 hB4
      try (rename_i hKK; refine hKK _ _ ?_; clear hKK)
      go_wp2_with (first
        | ((with_reducible refine at_slot (some 55) ?_); refine wpList_make_zeros rfl _ _ 51 rfl 5 i0 Try.underlying51 hi hz0 hzz hby _ L rfl rfl rfl (by omega) x hx'.out ?_; intro W6 hRz hb; have hcv := run_convert_row (P := Try.prog) (w := W6) (e := 5) 51 9 Try.underlying51 Try.underlying5 Try.underlying9 hxs'.out.symm hRz; have hcv' := hid hcv; clear hcv hRz; have hB6 := hid (bup hb hB5.out); have hA6 := hid (hA5.out.on hb); clear hb hB5 hA5)
        | ((with_reducible refine at_slot (some 56) ?_); refine wpList_convert rfl 51 9 (.tmp 55) rfl _ (.string x) _ rfl (by exact hcv'.out) ?_)
        | fail)
      clear hcv'
      refine (hX.out _ _ _ _ _ hA6.out).mono ?_
      rintro e W7 ⟨D', rfl, hA, hT⟩
      have hA7 := hid hA
      have hB7 := hid (dk_below hB6.out hT hr.out hb'.out)
      clear hA hT hA6 hB6
      try (rename_i hKK; refine hKK _ _ ?_; clear hKK)
      go_wp2_with (first
        | (go_at_call 17; refine (errNum_any _ _).mono ?_; rintro e w' ⟨rfl, rfl⟩)
        | fail)
      go_ret
      exact ⟨rfl, hB7.out⟩
  · as_aux_lemma =>
      have hN := hid (fun V => dkNew_code n 700 (.inr ⟨by omega, rfl⟩) V)
      have hN4 := hid (fun V => dkNew_yes 4 (by decide) (by decide) V)
      have hR := hid (fun d r b D V (h : DiskAt V d r b 4 D) => dkRead_code at_ 700 d r b 4 D (.inr ⟨by omega, rfl⟩) V h)
      have hW := hid (fun d r b D V (h : DiskAt V d r b 4 D) => dkWrite_code at_ 700 (secT 1) d r b 4 D (.inr ⟨by omega, rfl⟩) V h)
      have hX := hid (fun d r b D V (h : DiskAt V d r b 4 D) => dkWrite_code 1 700 x d r b 4 D (.inr ⟨fun h => hl (by rw [← hxs'.out]; exact h.2.2), rfl⟩) V h)
      have m3 : ¬ (n ≤ 256) := by omega
      have m4 : decide (n ≤ 256) = false := decide_eq_false m3
      have i3 : ¬ (0 ≤ at_) := by omega
      have hl2 : ((L : Int) == 64) = false := beq_eq_false_iff_ne.2 (by omega)
      clear hl
      go_enter Try.func8, Try.ntmps8
      go_wp2_with fail
      refine hAw.out.mono ?_
      rintro e W1 ⟨rfl, hb⟩
      have hB1 := hid hb
      clear hb hAw
      try (rename_i hKK; refine hKK _ _ ?_; clear hKK)
      go_wp2_with fail
      refine (hN.out _).mono ?_
      rintro e W2 ⟨p, rfl, hb⟩
      have hB2 := hid (bup hb hB1.out)
      clear hb hB1
      try (rename_i hKK; refine hKK _ _ ?_; clear hKK)
      go_wp2_with fail
      refine (hN4.out _).mono ?_
      rintro e W3 ⟨rfl, hA, hb⟩
      obtain ⟨r, hr0⟩ : ∃ r, W2.heap.size = r := ⟨_, rfl⟩
      rw [hr0] at hA hb ⊢
      have hr := hid (show w.heap.size ≤ r from by rw [← hr0]; exact hB2.out.size)
      have hb' := hid (show w.heap.size ≤ r + 1 from by rw [← hr0]; have := hB2.out.size; omega)
      rw [← hr0] at hb
      have hA3 := hid hA
      have hB3 := hid (bup hb hB2.out)
      clear hA hb hr0 hB2
      try (rename_i hKK; refine hKK _ _ ?_; clear hKK)
      go_wp2_with fail
      refine (hR.out _ _ _ _ _ hA3.out).mono ?_
      rintro e w' ⟨sr, rfl, rfl⟩
      try (rename_i hKK; refine hKK _ _ ?_; clear hKK)
      go_wp2_with fail
      refine (hS.out _).mono ?_
      rintro e W4 ⟨rfl, hb⟩
      have hB4 := hid (bup hb hB3.out)
      have hA4 := hid (hA3.out.on hb)
      clear hb hB3 hA3
      try (rename_i hKK; refine hKK _ _ ?_; clear hKK)
      go_wp2_with fail
      refine (hW.out _ _ _ _ _ hA4.out).mono ?_
      rintro e W5 ⟨D', rfl, hA, hT⟩
      have hA5 := hid hA
      have hB5 := hid (dk_below hB4.out hT hr.out hb'.out)
      clear hA hT hA4 hB4
      try (rename_i hKK; refine hKK _ _ ?_; clear hKK)
      go_wp2_with (first
        | ((with_reducible refine at_slot (some 55) ?_); refine wpList_make_zeros rfl _ _ 51 rfl 5 i0 Try.underlying51 hi hz0 hzz hby _ L rfl rfl rfl (by omega) x hx'.out ?_; intro W6 hRz hb; have hcv := run_convert_row (P := Try.prog) (w := W6) (e := 5) 51 9 Try.underlying51 Try.underlying5 Try.underlying9 hxs'.out.symm hRz; have hcv' := hid hcv; clear hcv hRz; have hB6 := hid (bup hb hB5.out); have hA6 := hid (hA5.out.on hb); clear hb hB5 hA5)
        | ((with_reducible refine at_slot (some 56) ?_); refine wpList_convert rfl 51 9 (.tmp 55) rfl _ (.string x) _ rfl (by exact hcv'.out) ?_)
        | fail)
      clear hcv'
      refine (hX.out _ _ _ _ _ hA6.out).mono ?_
      rintro e W7 ⟨D', rfl, hA, hT⟩
      have hA7 := hid hA
      have hB7 := hid (dk_below hB6.out hT hr.out hb'.out)
      clear hA hT hA6 hB6
      try (rename_i hKK; refine hKK _ _ ?_; clear hKK)
      go_wp2_with (first
        | (go_at_call 17; refine (errNum_any _ _).mono ?_; rintro e w' ⟨rfl, rfl⟩)
        | fail)
      go_ret
      exact ⟨rfl, hB7.out⟩
  · as_aux_lemma =>
      have hN := hid (fun V => dkNew_code n 700 (.inr ⟨by omega, rfl⟩) V)
      have hN4 := hid (fun V => dkNew_yes 4 (by decide) (by decide) V)
      have hR := hid (fun d r b D V (h : DiskAt V d r b 4 D) => dkRead_code at_ 700 d r b 4 D (.inr ⟨by omega, rfl⟩) V h)
      have hW := hid (fun d r b D V (h : DiskAt V d r b 4 D) => dkWrite_code at_ 700 (secT 1) d r b 4 D (.inr ⟨by omega, rfl⟩) V h)
      have hX := hid (fun d r b D V (h : DiskAt V d r b 4 D) => dkWrite_code 1 0 x d r b 4 D (.inl ⟨by omega, by omega, by rw [hxs'.out]; exact hl, rfl⟩) V h)
      have m3 : ¬ (n ≤ 256) := by omega
      have m4 : decide (n ≤ 256) = false := decide_eq_false m3
      have i3 : ¬ (at_ < 4) := by omega
      have i4 : decide (at_ < 4) = false := decide_eq_false i3
      have hl2 : ((L : Int) == 64) = true := beq_iff_eq.2 (by omega)
      clear hl
      go_enter Try.func8, Try.ntmps8
      go_wp2_with fail
      refine hAw.out.mono ?_
      rintro e W1 ⟨rfl, hb⟩
      have hB1 := hid hb
      clear hb hAw
      try (rename_i hKK; refine hKK _ _ ?_; clear hKK)
      go_wp2_with fail
      refine (hN.out _).mono ?_
      rintro e W2 ⟨p, rfl, hb⟩
      have hB2 := hid (bup hb hB1.out)
      clear hb hB1
      try (rename_i hKK; refine hKK _ _ ?_; clear hKK)
      go_wp2_with fail
      refine (hN4.out _).mono ?_
      rintro e W3 ⟨rfl, hA, hb⟩
      obtain ⟨r, hr0⟩ : ∃ r, W2.heap.size = r := ⟨_, rfl⟩
      rw [hr0] at hA hb ⊢
      have hr := hid (show w.heap.size ≤ r from by rw [← hr0]; exact hB2.out.size)
      have hb' := hid (show w.heap.size ≤ r + 1 from by rw [← hr0]; have := hB2.out.size; omega)
      rw [← hr0] at hb
      have hA3 := hid hA
      have hB3 := hid (bup hb hB2.out)
      clear hA hb hr0 hB2
      try (rename_i hKK; refine hKK _ _ ?_; clear hKK)
      go_wp2_with fail
      refine (hR.out _ _ _ _ _ hA3.out).mono ?_
      rintro e w' ⟨sr, rfl, rfl⟩
      try (rename_i hKK; refine hKK _ _ ?_; clear hKK)
      go_wp2_with fail
      refine (hS.out _).mono ?_
      rintro e W4 ⟨rfl, hb⟩
      have hB4 := hid (bup hb hB3.out)
      have hA4 := hid (hA3.out.on hb)
      clear hb hB3 hA3
      try (rename_i hKK; refine hKK _ _ ?_; clear hKK)
      go_wp2_with fail
      refine (hW.out _ _ _ _ _ hA4.out).mono ?_
      rintro e W5 ⟨D', rfl, hA, hT⟩
      have hA5 := hid hA
      have hB5 := hid (dk_below hB4.out hT hr.out hb'.out)
      clear hA hT hA4 hB4
      try (rename_i hKK; refine hKK _ _ ?_; clear hKK)
      go_wp2_with (first
        | ((with_reducible refine at_slot (some 55) ?_); refine wpList_make_zeros rfl _ _ 51 rfl 5 i0 Try.underlying51 hi hz0 hzz hby _ L rfl rfl rfl (by omega) x hx'.out ?_; intro W6 hRz hb; have hcv := run_convert_row (P := Try.prog) (w := W6) (e := 5) 51 9 Try.underlying51 Try.underlying5 Try.underlying9 hxs'.out.symm hRz; have hcv' := hid hcv; clear hcv hRz; have hB6 := hid (bup hb hB5.out); have hA6 := hid (hA5.out.on hb); clear hb hB5 hA5)
        | ((with_reducible refine at_slot (some 56) ?_); refine wpList_convert rfl 51 9 (.tmp 55) rfl _ (.string x) _ rfl (by exact hcv'.out) ?_)
        | fail)
      clear hcv'
      refine (hX.out _ _ _ _ _ hA6.out).mono ?_
      rintro e W7 ⟨D', rfl, hA, hT⟩
      have hA7 := hid hA
      have hB7 := hid (dk_below hB6.out hT hr.out hb'.out)
      clear hA hT hA6 hB6
      try (rename_i hKK; refine hKK _ _ ?_; clear hKK)
      go_wp2_with (first
        | (go_at_call 17; refine (errNum_any _ _).mono ?_; rintro e w' ⟨rfl, rfl⟩)
        | fail)
      go_ret
      exact ⟨rfl, hB7.out⟩
  · as_aux_lemma =>
      have hN := hid (fun V => dkNew_code n 700 (.inr ⟨by omega, rfl⟩) V)
      have hN4 := hid (fun V => dkNew_yes 4 (by decide) (by decide) V)
      have hR := hid (fun d r b D V (h : DiskAt V d r b 4 D) => dkRead_code at_ 700 d r b 4 D (.inr ⟨by omega, rfl⟩) V h)
      have hW := hid (fun d r b D V (h : DiskAt V d r b 4 D) => dkWrite_code at_ 700 (secT 1) d r b 4 D (.inr ⟨by omega, rfl⟩) V h)
      have hX := hid (fun d r b D V (h : DiskAt V d r b 4 D) => dkWrite_code 1 700 x d r b 4 D (.inr ⟨fun h => hl (by rw [← hxs'.out]; exact h.2.2), rfl⟩) V h)
      have m3 : ¬ (n ≤ 256) := by omega
      have m4 : decide (n ≤ 256) = false := decide_eq_false m3
      have i3 : ¬ (at_ < 4) := by omega
      have i4 : decide (at_ < 4) = false := decide_eq_false i3
      have hl2 : ((L : Int) == 64) = false := beq_eq_false_iff_ne.2 (by omega)
      clear hl
      go_enter Try.func8, Try.ntmps8
      go_wp2_with fail
      refine hAw.out.mono ?_
      rintro e W1 ⟨rfl, hb⟩
      have hB1 := hid hb
      clear hb hAw
      try (rename_i hKK; refine hKK _ _ ?_; clear hKK)
      go_wp2_with fail
      refine (hN.out _).mono ?_
      rintro e W2 ⟨p, rfl, hb⟩
      have hB2 := hid (bup hb hB1.out)
      clear hb hB1
      try (rename_i hKK; refine hKK _ _ ?_; clear hKK)
      go_wp2_with fail
      refine (hN4.out _).mono ?_
      rintro e W3 ⟨rfl, hA, hb⟩
      obtain ⟨r, hr0⟩ : ∃ r, W2.heap.size = r := ⟨_, rfl⟩
      rw [hr0] at hA hb ⊢
      have hr := hid (show w.heap.size ≤ r from by rw [← hr0]; exact hB2.out.size)
      have hb' := hid (show w.heap.size ≤ r + 1 from by rw [← hr0]; have := hB2.out.size; omega)
      rw [← hr0] at hb
      have hA3 := hid hA
      have hB3 := hid (bup hb hB2.out)
      clear hA hb hr0 hB2
      try (rename_i hKK; refine hKK _ _ ?_; clear hKK)
      go_wp2_with fail
      refine (hR.out _ _ _ _ _ hA3.out).mono ?_
      rintro e w' ⟨sr, rfl, rfl⟩
      try (rename_i hKK; refine hKK _ _ ?_; clear hKK)
      go_wp2_with fail
      refine (hS.out _).mono ?_
      rintro e W4 ⟨rfl, hb⟩
      have hB4 := hid (bup hb hB3.out)
      have hA4 := hid (hA3.out.on hb)
      clear hb hB3 hA3
      try (rename_i hKK; refine hKK _ _ ?_; clear hKK)
      go_wp2_with fail
      refine (hW.out _ _ _ _ _ hA4.out).mono ?_
      rintro e W5 ⟨D', rfl, hA, hT⟩
      have hA5 := hid hA
      have hB5 := hid (dk_below hB4.out hT hr.out hb'.out)
      clear hA hT hA4 hB4
      try (rename_i hKK; refine hKK _ _ ?_; clear hKK)
      go_wp2_with (first
        | ((with_reducible refine at_slot (some 55) ?_); refine wpList_make_zeros rfl _ _ 51 rfl 5 i0 Try.underlying51 hi hz0 hzz hby _ L rfl rfl rfl (by omega) x hx'.out ?_; intro W6 hRz hb; have hcv := run_convert_row (P := Try.prog) (w := W6) (e := 5) 51 9 Try.underlying51 Try.underlying5 Try.underlying9 hxs'.out.symm hRz; have hcv' := hid hcv; clear hcv hRz; have hB6 := hid (bup hb hB5.out); have hA6 := hid (hA5.out.on hb); clear hb hB5 hA5)
        | ((with_reducible refine at_slot (some 56) ?_); refine wpList_convert rfl 51 9 (.tmp 55) rfl _ (.string x) _ rfl (by exact hcv'.out) ?_)
        | fail)
      clear hcv'
      refine (hX.out _ _ _ _ _ hA6.out).mono ?_
      rintro e W7 ⟨D', rfl, hA, hT⟩
      have hA7 := hid hA
      have hB7 := hid (dk_below hB6.out hT hr.out hb'.out)
      clear hA hT hA6 hB6
      try (rename_i hKK; refine hKK _ _ ?_; clear hKK)
      go_wp2_with (first
        | (go_at_call 17; refine (errNum_any _ _).mono ?_; rintro e w' ⟨rfl, rfl⟩)
        | fail)
      go_ret
      exact ⟨rfl, hB7.out⟩


end Go.Proofs.Ytbclmkpigdeilaa
