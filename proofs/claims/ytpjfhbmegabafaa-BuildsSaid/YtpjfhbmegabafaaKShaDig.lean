/- Digest.Write. -/
import Derived.Test.YtpjfhbmegabafaaKShaWrite
import Derived.StillTailTactics
import Derived.Test.YtpjfhbmegabafaaKApFr
namespace Go.Proofs.Ytpjfhbmegabafaa
open Go.RowKit

attribute [local irreducible] Sha.compress Sha.blocks

theorem sizeU8 (w : World) : (Go.sizeOf 5).run Try.prog w = .ok 1 w := by kernel_rfl

/-- What stands in a digest's block while a text is written. -/
def DigW (w : World) (g : Nat) (t : List UInt8) : Prop := ∃ s rest, Sha.Valid s rest t ∧ Holds w g 174 (digCells s rest (t.length : Int))

theorem extract_drop (y : ByteArray) (m : Nat) : (y.extract m y.size).data.toList = y.data.toList.drop m := by
  rw [ByteArray.data_extract, Array.toList_extract]
  simp
  rw [List.take_of_length_le]
  simp

theorem cut_join {y : ByteArray} {k m : Nat} {z : List UInt8} (hz : y.data.toList.take (64 - k) = z) (hm : min y.size (64 - k) = m) : z ++ (y.extract m y.size).data.toList = y.data.toList := by
  have e : y.data.toList.take m = z := by
    rw [← hz, List.take_eq_take_iff, data_length]
    omega
  rw [extract_drop, ← e, List.take_append_drop]

theorem cut_less {y : ByteArray} {k m : Nat} (hy : y.data.toList ≠ []) (hm : min y.size (64 - k) = m) (hk : k < 64) : (y.extract m y.size).size < y.size := by
  have h0 : 0 < y.size := by
    rw [← data_length]
    exact List.length_pos_iff.2 hy
  rw [← data_length, extract_drop, List.length_drop, data_length]
  omega

theorem DigW.dig {w : World} {g : Nat} {t : List UInt8} (h : DigW w g t) : Dig w g t := by
  obtain ⟨s, r, hv, hh⟩ := h
  exact ⟨s, r, hv.1, fun _ => hv, hh⟩

theorem isEmpty_no {x : ByteArray} (h : x.data.toList ≠ []) : x.toList.isEmpty = false := by
  rw [ByteArray.toList_eq]
  simpa using h

set_option maxRecDepth 100000 in
set_option maxHeartbeats 1000000 in
theorem write_any (g : Nat) (t : List UInt8) (x : ByteArray) (w : World) (hd : Dig w g t) (hn : t.length + x.size < 4611686018427387904) :
    Calls Try.prog 84 #[.pointer (some ⟨g, 0, none⟩), .string x] w fun e w' => e = .returned (.tuple #[]) ∧ Dig w' g (t ++ x.data.toList) ∧ w.grownBy w' (some g) := by
  by_cases hx : x.data.toList = []
  · have hx' : x.toList.isEmpty = true := by rw [ByteArray.toList_eq, hx]; rfl
    go_enter Try.func84, Try.ntmps84
    go_wp2
    refine bodyPost_ret (results_none rfl _ _ _) rfl ?_
    rw [hx, List.append_nil]
    exact ⟨rfl, hd, World.grownBy.refl _ _⟩
  · have hx' := isEmpty_no hx
    obtain ⟨s, rest, hr, hv, hH⟩ := hd
    have cl := (hH.cell 72).trans (dig_len s rest _ hr)
    by_cases ht : t = []
    · obtain ⟨t0, ht0⟩ : ∃ t0, t0 = t := ⟨t, rfl⟩
      have hl0 : ((t.length : Int) == 0) = true := by rw [ht]; rfl
      rw [← ht0] at hn
      clear hv
      have ht' := hid ht
      have ht0' := hid ht0
      clear ht ht0
      go_enter Try.func84, Try.ntmps84
      go_wp2_with fail
      refine (firstWords_any _).mono ?_
      rintro e w1 ⟨rfl, hb1⟩
      have hH1 := hH.below hb1 hH.lt
      have hth := hH1.there 0 8 (by rw [dig_length s rest _ hr]; omega)
      go_wp2_with (refine wpList_store_mid rfl 162 (.tmp 20) (.tmp 18) rfl g 0 (wordCells Sha.S8.first.list).toArray rfl rfl (by exact hth) (by exact Try.sizeW8) (by exact all_oneCell_toArray (wordCells_one _)) ?_; generalize hW2 : World.setCells _ _ _ _ = W2)
      have hG0 : w.grownBy W2 (some g) := by
        rw [← hW2]
        exact only_setCells (only_of_below hb1 _) _ _
      have hW : DigW W2 g (t0 ++ []) := ⟨Sha.S8.first, rest, by rw [ht0'.out, ht'.out]; exact Sha.valid_first rest hr, by
        have h := hH1.put 0 (wordCells Sha.S8.first.list) (by rw [dig_length s rest _ hr]; decide)
        rw [dig_words, hW2] at h
        rw [ht0'.out, ht'.out]
        rw [ht'.out] at h
        exact h⟩
      clear hH1 hth cl hb1 hH hW2
      go_loopw [1] (fun v wr => ∃ (dn : List UInt8) (y : ByteArray), v = .string y ∧ x.data.toList = dn ++ y.data.toList ∧ DigW wr g (t0 ++ dn) ∧ w.grownBy wr (some g)) (fun v _ => match v with | .string y => y.size | _ => 0)
      case atStart => exact ⟨[], x, rfl, rfl, hW, hG0⟩
      case round =>
        obtain ⟨dn, y, rfl, hxy, hV, hG⟩ := hrel
        by_cases hy : y.data.toList = []
        · have hy' : y.toList.isEmpty = true := by rw [ByteArray.toList_eq, hy]; rfl
          have hxy' := hid hxy
          have hV' := hid hV
          clear hxy hV hW
          go_wp2
          refine bodyPost_end (results_none rfl _ _ _) rfl ⟨rfl, ?_, hG⟩
          rw [hxy'.out, hy, List.append_nil]
          rw [← ht0'.out]
          exact hV'.out.dig
        · have hy' := isEmpty_no hy
          obtain ⟨S, R, hV, hHr⟩ := hV
          have hT : (t0 ++ dn).length + y.size < 4611686018427387904 := by
            have h1 : x.size = dn.length + y.size := by
              rw [← data_length, ← data_length y, hxy, List.length_append]
            rw [List.length_append]
            omega
          generalize hT0 : t0 ++ dn = T at *
          have hT' := hid hT0
          clear hT0
          have hR := hV.1
          have cl := (hHr.cell 72).trans (dig_len S R _ hR)
          have hk := Nat.mod_lt T.length (show 0 < 64 by omega)
          have hVk := hid hV
          have hrem : (T.length : Int) % 64 = ((T.length % 64 : Nat) : Int) := rfl
          generalize hkk : T.length % 64 = k at *
          have hkk' := hid hkk
          have hV' := hid hV
          clear hkk hV
          obtain ⟨m, hm⟩ : ∃ m, min y.size (64 - k) = m := ⟨_, rfl⟩
          obtain ⟨z, hz⟩ : ∃ z, y.data.toList.take (64 - k) = z := ⟨_, rfl⟩
          have hzl : z.length = m := by rw [← hz, List.length_take, data_length, ← hm, Nat.min_comm]
          have sl := run_sliceAt_from (P := Try.prog) 172 5 g 8 64 k hk Try.underlying172 (by kernel_rfl)
          have hcp := run_copy_min (P := Try.prog) wr 51 9 3 5 g (8 + k) (64 - k) (64 - k) y Try.underlying51 sizeU8 (hHr.there _ _ (by rw [dig_length S R _ hR]; omega))
          rw [hm, hz] at hcp
          have hH1 := hHr.put (8 + k) (byteCells z) (by rw [dig_length S R _ hR, byteCells_length]; omega)
          rw [dig_bytes S R z k _ hR (by omega)] at hH1
          have hG1 := only_setCells hG (8 + k) (byteCells z)
          generalize wr.setCells g (8 + k) (byteCells z) = W1 at *
          have hR1 : (Sha.laid R z k).length = 64 := by rw [Sha.laid_length R z k (by omega), hR]
          have cl1 := (hH1.cell 72).trans (dig_len S _ _ hR1)
          have cf1 := hH1.frozen 72
          have a1 := IntWalk.i64_in ((T.length : Int) + (m : Int)) (by omega)
          have a2 := IntWalk.i64_in ((k : Int) + (m : Int)) (by omega)
          have m1 : m ≤ y.size := by omega
          have hH2 := hH1.set 72 (.int .i64 ((T.length : Int) + (m : Int)))
          rw [dig_count S _ _ _ hR1] at hH2
          have hG2 := only_setCell hG1 72 (.int .i64 ((T.length : Int) + (m : Int)))
          have hH2' := hid hH2
          have hG2' := hid hG2
          have hxy' := hid hxy
          have hzl' := hid hzl
          have hm' := hid hm
          have hz' := hid hz
          clear hH2 hG2 hH1 hG1 hHr hxy hzl hm hz hG hW hG0
          go_wp2_with (refine Lib.wpList_copy_run _ rfl _ _ 51 9 rfl _ _ rfl rfl (by exact hcp) ?_)
          · rename_i hb
            have hkm : k + m = 64 := by
              have := of_decide_eq_true hb
              omega
            clear hb a1 a2 hcp cl1 cf1 cl
            go_still_tail 6, (by kernel_rfl)
            change wpList _ _ _ _ _ (World.drew _)
            go_wp2_with fail
            refine (mix_any g _ S (Sha.laid R z k) _ hR1 _ hH2'.out.drew).mono ?_
            rintro e w2 ⟨rfl, hH3, hG3⟩
            have hH3' := hid hH3
            have hG3' := hid hG3
            clear hH3 hG3
            go_wp2
            go_roundw
            case rel =>
              refine ⟨dn ++ z, _, rfl, ?_, ?_, only_trans (only_drew hG2'.out) hG3'.out⟩
              · rw [hxy'.out, List.append_assoc, cut_join hz'.out hm'.out]
              · rw [← List.append_assoc, hT'.out]
                have hv := Sha.valid_whole (x := z) hVk.out (by rw [hkk'.out, hzl'.out]; exact hkm)
                rw [hkk'.out] at hv
                refine ⟨_, _, hv, ?_⟩
                rw [List.length_append, hzl'.out, Int.natCast_add]
                exact hH3'.out
            case measure => exact cut_less hy hm'.out hk
          · rename_i hb
            have hkm : k + m ≠ 64 := by
              intro e
              apply of_decide_eq_false hb
              omega
            clear hb a1 a2 hcp cl1 cf1 cl
            go_wp2
            go_roundw
            case rel =>
              refine ⟨dn ++ z, _, rfl, ?_, ?_, hG2'.out⟩
              · rw [hxy'.out, List.append_assoc, cut_join hz'.out hm'.out]
              · rw [← List.append_assoc, hT'.out]
                have hv := Sha.valid_part (x := z) hVk.out (by rw [hkk'.out, hzl'.out]; have := hm'.out; omega)
                rw [hkk'.out] at hv
                refine ⟨_, _, hv, ?_⟩
                rw [List.length_append, hzl'.out, Int.natCast_add]
                exact hH2'.out
            case measure => exact cut_less hy hm'.out hk
    · have hl0 : ((t.length : Int) == 0) = false := by
        simp
        exact ht
      obtain ⟨t0, ht0⟩ : ∃ t0, t0 = t := ⟨t, rfl⟩
      have hW : DigW w g (t0 ++ []) := by
        rw [List.append_nil, ht0]
        exact ⟨s, rest, hv ht, hH⟩
      have hG0 : w.grownBy w (some g) := World.grownBy.refl _ _
      rw [← ht0] at hn
      have ht0' := hid ht0
      clear hv ht0 ht
      go_enter Try.func84, Try.ntmps84
      go_wp2
      clear cl hH hl0
      go_loopw [1] (fun v wr => ∃ (dn : List UInt8) (y : ByteArray), v = .string y ∧ x.data.toList = dn ++ y.data.toList ∧ DigW wr g (t0 ++ dn) ∧ w.grownBy wr (some g)) (fun v _ => match v with | .string y => y.size | _ => 0)
      case atStart => exact ⟨[], x, rfl, rfl, hW, hG0⟩
      case round =>
        obtain ⟨dn, y, rfl, hxy, hV, hG⟩ := hrel
        by_cases hy : y.data.toList = []
        · have hy' : y.toList.isEmpty = true := by rw [ByteArray.toList_eq, hy]; rfl
          have hxy' := hid hxy
          have hV' := hid hV
          clear hxy hV hW
          go_wp2
          refine bodyPost_end (results_none rfl _ _ _) rfl ⟨rfl, ?_, hG⟩
          rw [hxy'.out, hy, List.append_nil]
          rw [← ht0'.out]
          exact hV'.out.dig
        · have hy' := isEmpty_no hy
          obtain ⟨S, R, hV, hHr⟩ := hV
          have hT : (t0 ++ dn).length + y.size < 4611686018427387904 := by
            have h1 : x.size = dn.length + y.size := by
              rw [← data_length, ← data_length y, hxy, List.length_append]
            rw [List.length_append]
            omega
          generalize hT0 : t0 ++ dn = T at *
          have hT' := hid hT0
          clear hT0
          have hR := hV.1
          have cl := (hHr.cell 72).trans (dig_len S R _ hR)
          have hk := Nat.mod_lt T.length (show 0 < 64 by omega)
          have hVk := hid hV
          have hrem : (T.length : Int) % 64 = ((T.length % 64 : Nat) : Int) := rfl
          generalize hkk : T.length % 64 = k at *
          have hkk' := hid hkk
          have hV' := hid hV
          clear hkk hV
          obtain ⟨m, hm⟩ : ∃ m, min y.size (64 - k) = m := ⟨_, rfl⟩
          obtain ⟨z, hz⟩ : ∃ z, y.data.toList.take (64 - k) = z := ⟨_, rfl⟩
          have hzl : z.length = m := by rw [← hz, List.length_take, data_length, ← hm, Nat.min_comm]
          have sl := run_sliceAt_from (P := Try.prog) 172 5 g 8 64 k hk Try.underlying172 (by kernel_rfl)
          have hcp := run_copy_min (P := Try.prog) wr 51 9 3 5 g (8 + k) (64 - k) (64 - k) y Try.underlying51 sizeU8 (hHr.there _ _ (by rw [dig_length S R _ hR]; omega))
          rw [hm, hz] at hcp
          have hH1 := hHr.put (8 + k) (byteCells z) (by rw [dig_length S R _ hR, byteCells_length]; omega)
          rw [dig_bytes S R z k _ hR (by omega)] at hH1
          have hG1 := only_setCells hG (8 + k) (byteCells z)
          generalize wr.setCells g (8 + k) (byteCells z) = W1 at *
          have hR1 : (Sha.laid R z k).length = 64 := by rw [Sha.laid_length R z k (by omega), hR]
          have cl1 := (hH1.cell 72).trans (dig_len S _ _ hR1)
          have cf1 := hH1.frozen 72
          have a1 := IntWalk.i64_in ((T.length : Int) + (m : Int)) (by omega)
          have a2 := IntWalk.i64_in ((k : Int) + (m : Int)) (by omega)
          have m1 : m ≤ y.size := by omega
          have hH2 := hH1.set 72 (.int .i64 ((T.length : Int) + (m : Int)))
          rw [dig_count S _ _ _ hR1] at hH2
          have hG2 := only_setCell hG1 72 (.int .i64 ((T.length : Int) + (m : Int)))
          have hH2' := hid hH2
          have hG2' := hid hG2
          have hxy' := hid hxy
          have hzl' := hid hzl
          have hm' := hid hm
          have hz' := hid hz
          clear hH2 hG2 hH1 hG1 hHr hxy hzl hm hz hG hW hG0
          go_wp2_with (refine Lib.wpList_copy_run _ rfl _ _ 51 9 rfl _ _ rfl rfl (by exact hcp) ?_)
          · rename_i hb
            have hkm : k + m = 64 := by
              have := of_decide_eq_true hb
              omega
            clear hb a1 a2 hcp cl1 cf1 cl
            go_still_tail 6, (by kernel_rfl)
            change wpList _ _ _ _ _ (World.drew _)
            go_wp2_with fail
            refine (mix_any g _ S (Sha.laid R z k) _ hR1 _ hH2'.out.drew).mono ?_
            rintro e w2 ⟨rfl, hH3, hG3⟩
            have hH3' := hid hH3
            have hG3' := hid hG3
            clear hH3 hG3
            go_wp2
            go_roundw
            case rel =>
              refine ⟨dn ++ z, _, rfl, ?_, ?_, only_trans (only_drew hG2'.out) hG3'.out⟩
              · rw [hxy'.out, List.append_assoc, cut_join hz'.out hm'.out]
              · rw [← List.append_assoc, hT'.out]
                have hv := Sha.valid_whole (x := z) hVk.out (by rw [hkk'.out, hzl'.out]; exact hkm)
                rw [hkk'.out] at hv
                refine ⟨_, _, hv, ?_⟩
                rw [List.length_append, hzl'.out, Int.natCast_add]
                exact hH3'.out
            case measure => exact cut_less hy hm'.out hk
          · rename_i hb
            have hkm : k + m ≠ 64 := by
              intro e
              apply of_decide_eq_false hb
              omega
            clear hb a1 a2 hcp cl1 cf1 cl
            go_wp2
            go_roundw
            case rel =>
              refine ⟨dn ++ z, _, rfl, ?_, ?_, hG2'.out⟩
              · rw [hxy'.out, List.append_assoc, cut_join hz'.out hm'.out]
              · rw [← List.append_assoc, hT'.out]
                have hv := Sha.valid_part (x := z) hVk.out (by rw [hkk'.out, hzl'.out]; have := hm'.out; omega)
                rw [hkk'.out] at hv
                refine ⟨_, _, hv, ?_⟩
                rw [List.length_append, hzl'.out, Int.natCast_add]
                exact hH2'.out
            case measure => exact cut_less hy hm'.out hk

end Go.Proofs.Ytpjfhbmegabafaa
