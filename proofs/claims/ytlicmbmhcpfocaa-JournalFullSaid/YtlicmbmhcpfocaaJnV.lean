/- Layer 8: the law JournalFull. -/
import Derived.Test.YtlicmbmhcpfocaaJnAw
import Derived.Test.YtlicmbmhcpfocaaArith
namespace Go.Proofs.Ytlicmbmhcpfocaa
open Go.RowKit
open Go.Lib (strCells strCells_length strCells_oneCell)
attribute [local irreducible] Sha.compress Sha.blocks Sha.sha Sha.pad

set_option maxRecDepth 100000 in
set_option maxHeartbeats 8000000 in
theorem JournalFull_law (sectors size : Int) {w : World} :
    Calls Try.prog 6 #[.int .i64 sectors, .int .i64 size] w fun e w' => e = .returned (.bool true) ∧ Below w.heap.size w w' := by
  obtain ⟨i0, hi, hz0, hzz, hby⟩ := info_parts Try.infoU8
  obtain ⟨k15, hk15, e15, -⟩ := and_mask sectors 4 (by decide) 15 rfl
  obtain ⟨m, hm, em, -⟩ := and_mask size 7 (by decide) 127 rfl
  have hk15 : k15 < 16 := hk15
  have hm : m < 128 := hm
  obtain ⟨K, hK⟩ : ∃ k, 1 + k15 = k := ⟨_, rfl⟩
  have eK : IntKind.i64.wrap (1 + (k15 : Int)) = (K : Int) := by rw [IntWalk.i64_in _ (by omega)]; omega
  obtain ⟨E, hE⟩ : ∃ e, wholes (41 + m) = e := ⟨_, rfl⟩
  have hE3 : E = (41 + m + 63) / 64 := by rw [← hE]; rfl
  obtain ⟨A1, hA1⟩ : ∃ a, 9 + m = a := ⟨_, rfl⟩
  obtain ⟨A2, hA2⟩ : ∃ a, A1 + 32 = a := ⟨_, rfl⟩
  obtain ⟨A3, hA3⟩ : ∃ a, A2 + 64 = a := ⟨_, rfl⟩
  obtain ⟨A4, hA4⟩ : ∃ a, A3 - 1 = a := ⟨_, rfl⟩
  have a1 : IntKind.i64.wrap (9 + (m : Int)) = (A1 : Int) := by rw [IntWalk.i64_in _ (by omega)]; omega
  have a2 : IntKind.i64.wrap ((A1 : Int) + 32) = (A2 : Int) := by rw [IntWalk.i64_in _ (by omega)]; omega
  have a3 : IntKind.i64.wrap ((A2 : Int) + 64) = (A3 : Int) := by rw [IntWalk.i64_in _ (by omega)]; omega
  have a4 : IntKind.i64.wrap ((A3 : Int) - 1) = (A4 : Int) := by rw [IntWalk.i64_in _ (by omega)]; omega
  have a5 : IntKind.i64.wrap ((A4 : Int) / 64) = (E : Int) := by rw [IntWalk.i64_in _ (by omega)]; omega
  have hEb : E ≤ 3 := by omega
  have hE1 : 1 ≤ E := by omega
  have hKb := hid (show 1 ≤ K ∧ K ≤ 16 from by omega)
  obtain ⟨z, hz⟩ : ∃ s, zeroS m = s := ⟨_, rfl⟩
  have hzs := hid (show z.size = m from by rw [← hz]; exact zeroS_size m)
  have hz' := hid hz
  have hE' := hid hE
  have hmb := hid hm
  have hEb' := hid (And.intro hE1 hEb)
  clear hk15 hK hE hE3 hA1 hA2 hA3 hA4 hz hm hEb hE1
  go_enter Try.func6, Try.ntmps6
  go_wp2_with (first
    | (go_at_call 13; refine (awake8_any _).mono ?_; rintro e W1 ⟨rfl, hb⟩; have hB1 := hid hb; clear hb)
    | fail)
  have hN := hid (dkNew_yes K hKb.out.1 (by have := hKb.out.2; omega) W1)
  obtain ⟨d, hd⟩ : ∃ d, W1.heap.size + 2 = d := ⟨_, rfl⟩
  obtain ⟨r, hr0⟩ : ∃ r, W1.heap.size = r := ⟨_, rfl⟩
  obtain ⟨b, hb0⟩ : ∃ b, W1.heap.size + 1 = b := ⟨_, rfl⟩
  have hr := hid (show w.heap.size ≤ r from by have := hB1.out.size; omega)
  have hb' := hid (show w.heap.size ≤ b from by have := hB1.out.size; omega)
  have hN' := hid (show Calls Try.prog 14 #[.int .i64 (K : Int)] W1 fun e w' => e = .returned (.tuple #[.pointer (some ⟨d, 0, none⟩), .int .i64 0]) ∧ DiskAt w' d r b K (Dk.new K) ∧ Below W1.heap.size W1 w' from by
    have h := hN.out
    rw [hd, hb0] at h
    exact h.mono fun e w' h2 => ⟨h2.1, by rw [← hr0]; exact h2.2.1, h2.2.2⟩)
  clear hN hd hr0 hb0
  refine hN'.out.mono ?_
  rintro e W2 ⟨rfl, hA, hb⟩
  have hA2 := hid hA
  have hB2 := hid (bup hb hB1.out)
  clear hA hb hN' hB1
  go_wp2_with fail
  refine (open_ok d r b K (Dk.new K) [] JSt.start (JOk.new K) _ hA2.out).mono ?_
  rintro e W3 ⟨j, A0, c0, rfl, hj, hrow0, hA, hk0, hT, hjl⟩
  have hjj := hid (show j ≠ r ∧ j ≠ b ∧ j ≠ d from by have := hA2.out.lt; omega)
  have hjw := hid (show w.heap.size ≤ j from Nat.le_trans hB2.out.size hjl)
  have hJ3 := hid hj
  have hA3 := hid hA
  have hB3 := hid (dk_below8 hB2.out hT hr.out hb'.out)
  have hk0' := hid hk0
  clear hA2 hB2 hj hrow0 hA hk0 hT hjl
  go_wp2_with (first
    | (go_at_call 12; refine (errNum_any _ _).mono ?_; rintro e w' ⟨rfl, rfl⟩)
    | fail)
  go_loopw [13, 14] (fun my ix wr => ∃ (i many : Nat) (Di : Dk) (l : Stood) (st : JSt), i ≤ 20 ∧ many ≤ i ∧ ix = .int .i64 (i : Int) ∧ my = .int .i64 (many : Int) ∧ JOk Di K l st ∧ l.length = many ∧ st.used = many * E ∧ Holds wr j 67 (jCells d st.prev (st.seq : Int) (st.used : Int)) ∧ DiskAt wr d r b K Di ∧ Below w.heap.size w wr) (fun _ ix _ => 20 - (intOf ix).toNat)
  case atStart => exact ⟨0, 0, _, [], JSt.start, Nat.zero_le _, Nat.le_refl _, rfl, rfl, hk0'.out, rfl, (Nat.zero_mul _).symm, hJ3.out, hA3.out, hB3.out⟩
  case round =>
    obtain ⟨i, many, Di, l, st, hi20, hmi, rfl, rfl, hok, hlm, hum, hj, hA, hB⟩ := hrel
    obtain ⟨W4, rfl⟩ : ∃ V, V = wr := ⟨_, rfl⟩
    have hJ4 := hid hj
    have hA4 := hid hA
    have hB4 := hid hB
    have hok' := hid hok
    have hum' := hid hum
    have hlm' := hid hlm
    clear hj hA hB hok hum hlm
    by_cases hlt : i < 20
    · have hii : (i : Int) < 20 := by omega
      have u2 := IntWalk.i64_in ((i : Int) + 1) (by omega)
      have v2 := IntWalk.i64_in ((many : Int) + 1) (by omega)
      have hE3 := hEb'.out.2
      obtain ⟨P0, hP0⟩ : ∃ p, many * E = p := ⟨_, rfl⟩
      obtain ⟨P1, hP1⟩ : ∃ p, (many + 1) * E = p := ⟨_, rfl⟩
      have hP01 : P1 = P0 + E := by rw [← hP1, ← hP0, Nat.succ_mul]
      have hP0b : P0 ≤ 60 := by
        rw [← hP0]
        have h1 : many * E ≤ 20 * 3 := Nat.mul_le_mul (by omega) hE3
        omega
      have x0 : IntKind.i64.wrap ((many : Int) * (E : Int)) = (P0 : Int) := by rw [show (many : Int) * (E : Int) = ((many * E : Nat) : Int) from by push_cast; rfl, hP0, IntWalk.i64_in _ (by omega)]
      have x1 : IntKind.i64.wrap (((many : Int) + 1) * (E : Int)) = (P1 : Int) := by rw [show ((many : Int) + 1) * (E : Int) = (((many + 1) * E : Nat) : Int) from by push_cast; rfl, hP1, IntWalk.i64_in _ (by omega)]
      have hP0' := hid hP0
      have hP1' := hid hP1
      clear hP0 hP1
      have hf0 := hok'.out.facts
      have hsm : sealMay ((st.seq : Nat) : Int) ⟨1, z⟩ = true := sealMay_iff.2 ⟨by omega, by rw [hf0.2.1, hlm'.out]; omega, by show (0 : Int) ≤ 1; decide, by show (1 : Int) ≤ 255; decide, by show z.size ≤ 1024; rw [hzs.out]; have := hmb.out; omega⟩
      have hw : wholes (41 + (⟨1, z⟩ : Rec).data.size) = E := by show wholes (41 + z.size) = E; rw [hzs.out, hE'.out]
      by_cases hfit : st.used + E ≤ K
      · have hap := hid (fun W hJ hA => append_ok j d r b K Di st hf0.1 ⟨1, z⟩ hsm (by rw [hw]; exact hfit) W hJ hA hjj.out)
        have hok2 := hok'.out.append ⟨1, z⟩ hsm (by rw [hw]; exact hfit)
        obtain ⟨D2, hD2⟩ : ∃ x, writeS Di st.used (recBytes st.prev st.seq (⟨1, z⟩ : Rec).kind.toNat (⟨1, z⟩ : Rec).data) (wholes (41 + (⟨1, z⟩ : Rec).data.size)) = x := ⟨_, rfl⟩
        have hu2 : (st.pass ⟨1, z⟩ (recBytes st.prev st.seq (⟨1, z⟩ : Rec).kind.toNat (⟨1, z⟩ : Rec).data)).used = P1 := by
          show st.used + (recBytes st.prev st.seq (⟨1, z⟩ : Rec).kind.toNat (⟨1, z⟩ : Rec).data).size / 64 = P1
          rw [recBytes_size, Nat.mul_div_cancel _ (by decide), hw, hum'.out, hP0'.out]
          exact hP01.symm
        obtain ⟨st2, hst2⟩ : ∃ x, st.pass ⟨1, z⟩ (recBytes st.prev st.seq (⟨1, z⟩ : Rec).kind.toNat (⟨1, z⟩ : Rec).data) = x := ⟨_, rfl⟩
        have hl2 : (l ++ [asRB st ⟨1, z⟩ hsm]).length = many + 1 := by rw [List.length_append, hlm'.out]; rfl
        obtain ⟨l2, hl2e⟩ : ∃ x, l ++ [asRB st ⟨1, z⟩ hsm] = x := ⟨_, rfl⟩
        rw [hl2e] at hok2 hl2
        rw [hD2, hst2] at hap hok2
        rw [hst2] at hu2
        have hus := hid (fun W hJ => show Calls Try.prog 22 #[.pointer (some ⟨j, 0, none⟩)] W fun e w' => e = .returned (.int .i64 (P1 : Int)) ∧ w' = W from by
          have h := jUsed_any j d st2 hok2.facts.1 W hJ
          rw [hu2] at h
          exact h)
        have hok2' := hid hok2
        have hl2' := hid hl2
        have hu2' := hid hu2
        have y1 : (P1 : Int) ≤ (K : Int) := by rw [hum'.out, hP0'.out] at hfit; omega
        clear hok2 hl2 hu2 hst2 hD2 hl2e hsm hw hf0 hfit hP01 hP0b
        go_wp2_with (first
          | ((with_reducible refine at_slot (some 61) ?_); refine wpList_make_zeros rfl _ _ 52 rfl 5 i0 Try.underlying52 hi hz0 hzz hby _ m rfl rfl rfl (by have := hmb.out; omega) z hz'.out ?_; intro W5 hRz hb; have hcv := run_convert_row (P := Try.prog) (w := W5) (e := 5) 52 9 Try.underlying52 Try.underlying5 Try.underlying9 hzs.out.symm hRz; have hcv' := hid hcv; clear hcv hRz; have hB5 := hid (bup hb hB4.out); have hA5 := hid (hA4.out.on hb); have hJ5 := hid (hJ4.out.below hb hJ4.out.lt); clear hb hB4 hA4 hJ4)
          | ((with_reducible refine at_slot (some 62) ?_); refine wpList_convert rfl 52 9 (.tmp 61) rfl _ (.string z) _ rfl (by exact hcv'.out) ?_)
          | (go_at_call 17; refine (hap.out _ hJ5.out hA5.out).mono ?_; rintro e W6 ⟨rfl, hj, hA, hT⟩; have hJ6 := hid (show Holds W6 j 67 (jCells d _ _ _) from hj); have hA6 := hid hA; have hB6 := hid (js_below hB5.out hT hjw.out hr.out hb'.out); clear hj hA hT hA5 hB5 hJ5)
          | (go_at_call 12; refine (errNum_any _ _).mono ?_; rintro e w' ⟨rfl, rfl⟩)
          | (go_at_call 22; refine (hus.out _ hJ6.out).mono ?_; rintro e w' ⟨rfl, rfl⟩)
          | fail)
        go_roundw
        case rel => exact ⟨i + 1, many + 1, D2, l2, st2, by omega, by omega, by go_num, by go_num, hok2'.out, hl2'.out, by rw [hu2'.out, hP1'.out], hJ6.out, hA6.out, hB6.out⟩
        case measure => simp [intOf]; omega
      · have hap := hid (fun W hJ hA => append_full j d r b K Di st hf0.1 ⟨1, z⟩ hsm hf0.2.2 (by rw [hw]; omega) W hJ hA)
        have hus := hid (fun W hJ => show Calls Try.prog 22 #[.pointer (some ⟨j, 0, none⟩)] W fun e w' => e = .returned (.int .i64 (P0 : Int)) ∧ w' = W from by
          have h := jUsed_any j d st hf0.1 W hJ
          rw [hum'.out, hP0'.out] at h
          exact h)
        have y1 : ¬ (P1 : Int) ≤ (K : Int) := by rw [hum'.out, hP0'.out] at hfit; omega
        clear hsm hw hf0 hfit hP01 hP0b
        go_wp2_with (first
          | ((with_reducible refine at_slot (some 61) ?_); refine wpList_make_zeros rfl _ _ 52 rfl 5 i0 Try.underlying52 hi hz0 hzz hby _ m rfl rfl rfl (by have := hmb.out; omega) z hz'.out ?_; intro W5 hRz hb; have hcv := run_convert_row (P := Try.prog) (w := W5) (e := 5) 52 9 Try.underlying52 Try.underlying5 Try.underlying9 hzs.out.symm hRz; have hcv' := hid hcv; clear hcv hRz; have hB5 := hid (bup hb hB4.out); have hA5 := hid (hA4.out.on hb); have hJ5 := hid (hJ4.out.below hb hJ4.out.lt); clear hb hB4 hA4 hJ4)
          | ((with_reducible refine at_slot (some 62) ?_); refine wpList_convert rfl 52 9 (.tmp 61) rfl _ (.string z) _ rfl (by exact hcv'.out) ?_)
          | (go_at_call 17; refine (hap.out _ hJ5.out hA5.out).mono ?_; rintro e W6 ⟨rfl, hb⟩; have hJ6 := hid (hJ5.out.below hb hJ5.out.lt); have hA6 := hid (hA5.out.on hb); have hB6 := hid (bup hb hB5.out); clear hb hA5 hB5 hJ5)
          | (go_at_call 12; refine (errNum_any _ _).mono ?_; rintro e w' ⟨rfl, rfl⟩)
          | (go_at_call 22; refine (hus.out _ hJ6.out).mono ?_; rintro e w' ⟨rfl, rfl⟩)
          | fail)
        go_roundw
        case rel => exact ⟨i + 1, many, Di, l, st, by omega, by omega, by go_num, rfl, hok'.out, hlm'.out, hum'.out, hJ6.out, hA6.out, hB6.out⟩
        case measure => simp [intOf]; omega
    · obtain rfl : i = 20 := by omega
      have hii : ¬ ((20 : Nat) : Int) < 20 := by omega
      have hop := hid (fun W hA => open_ok d r b K Di l st hok'.out W hA)
      rw [hlm'.out] at hop
      go_wp2_with (first
        | (go_at_call 15; refine (hop.out _ hA4.out).mono ?_; rintro e W5 ⟨j2, A5, c5, rfl, hj2, hrow5, hA, hk5, hT, hjl⟩; have hB5 := hid (dk_below8 hB4.out hT hr.out hb'.out); clear hj2 hrow5 hA hk5 hT hjl)
        | (go_at_call 12; refine (errNum_any _ _).mono ?_; rintro e w' ⟨rfl, rfl⟩)
        | fail)
      go_ret
      exact ⟨rfl, hB5.out⟩


end Go.Proofs.Ytlicmbmhcpfocaa
