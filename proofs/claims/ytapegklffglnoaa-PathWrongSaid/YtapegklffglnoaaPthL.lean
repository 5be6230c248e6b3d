/- Layer 16: what every program answers; the law Paths. -/
import Derived.Test.YtapegklffglnoaaPthR
import Derived.Test.YtapegklffglnoaaSameT
namespace Go.Proofs.Ytapegklffglnoaa
open Go.RowKit

theorem sp1 : splitB ⟨#[47, 97, 47, 98, 99]⟩ = [⟨#[97]⟩, ⟨#[98, 99]⟩] ∧ splitE ⟨#[47, 97, 47, 98, 99]⟩ = 0 := ⟨by kernel_rfl, by kernel_rfl⟩
theorem sp2 : splitB ⟨#[47]⟩ = [] ∧ splitE ⟨#[47]⟩ = 0 := ⟨by kernel_rfl, by kernel_rfl⟩
theorem sp3 : splitE ⟨#[97]⟩ = 1600 := by kernel_rfl
theorem sp4 : splitE ⟨#[47, 97, 47, 47, 98]⟩ = 1600 := by kernel_rfl
theorem nm1 : Pth.nameOk (⟨#[120]⟩ : ByteArray).data.toList = true := by kernel_rfl
theorem nm2 : Pth.nameOk (⟨#[46, 46]⟩ : ByteArray).data.toList = false := by kernel_rfl

theorem splitB_short (s : ByteArray) : (splitB s).length ≤ 1000 := by
  unfold splitB
  rw [List.length_map]
  unfold Pth.split
  split
  · split
    · exact Nat.zero_le _
    · split
      · rename_i h
        show (Pth.pieces _).length ≤ 1000
        omega
      · exact Nat.zero_le _
  · exact Nat.zero_le _

set_option maxRecDepth 100000 in
set_option maxHeartbeats 4000000 in
theorem awake16_any (w : World) : Calls Try.prog 19 #[] w fun e w' => e = .returned (.bool true) ∧ Below w.heap.size w w' := by
  go_enter Try.func19, Try.ntmps19
  go_wp2_with fail
  refine (Split_any _ _ (by decide)).mono ?_
  rintro e W1 ⟨A1, n1, c1, rfl, hT1, hB1⟩
  rw [sp1.1] at hT1
  rw [sp1.2]
  obtain rfl : 2 = n1 := hT1.len
  have hT1' := hid hT1
  have hB1' := hid hB1
  clear hT1 hB1
  go_wp2_with fail
  refine (Split_any _ _ (by decide)).mono ?_
  rintro e W2 ⟨A2, n2, c2, rfl, hT2, hB2⟩
  rw [sp2.1] at hT2
  rw [sp2.2]
  obtain rfl : 0 = n2 := hT2.len
  have hT12 := hid (hT1'.out.below hB2)
  have hB2' := hid (hB1'.out.trans (hB2.mono hB1'.out.size))
  have hz2 := hid hB2.size
  clear hT2 hB2
  go_wp2_with fail
  refine (Split_any _ _ (by decide)).mono ?_
  rintro e W3 ⟨A3, n3, c3, rfl, hT3, hB3⟩
  rw [sp3]
  have hT13 := hid (hT12.out.below (hB3.mono hz2.out))
  have hB3' := hid (hB2'.out.trans (hB3.mono hB2'.out.size))
  have hz3 := hid (Nat.le_trans hz2.out hB3.size)
  clear hT3 hB3
  go_wp2_with fail
  refine (Split_any _ _ (by decide)).mono ?_
  rintro e W4 ⟨A4, n4, c4, rfl, hT4, hB4⟩
  rw [sp4]
  have hT14 := hid (hT13.out.below (hB4.mono hz3.out))
  have hB4' := hid (hB3'.out.trans (hB4.mono hB3'.out.size))
  have hz4 := hid (Nat.le_trans hz3.out hB4.size)
  clear hT4 hB4
  go_wp2_with fail
  have hnew : Texts (W4.alloc (.cells #[.string ⟨#[97]⟩, .string ⟨#[98, 99]⟩] 9)) (W4.heap.size + 1) (some ⟨W4.heap.size, 0, none⟩) 2 [⟨#[97]⟩, ⟨#[98, 99]⟩] := At.new _ _ _ _ _ rfl rfl
  refine (SameTexts_any A1 2 c1 [⟨#[97]⟩, ⟨#[98, 99]⟩] _ 2 (W4.heap.size + 1) _ ((hT14.out.alloc hz4.out _).more (Nat.le_succ_of_le hz4.out)) (by omega) hnew).mono ?_
  rintro e w5 ⟨rfl, m5, rfl⟩
  have hB5 := hid (below_drewN (hB4'.out.alloc hB4'.out.size (.cells #[.string ⟨#[97]⟩, .string ⟨#[98, 99]⟩] 9)) m5)
  clear hnew
  generalize (W4.alloc (.cells #[.string ⟨#[97]⟩, .string ⟨#[98, 99]⟩] 9)).drewN m5 = W5 at hB5 ⊢
  have h1 := hid (nameMay_any ⟨#[120]⟩)
  have h2 := hid (nameMay_any ⟨#[46, 46]⟩)
  rw [nm1] at h1
  rw [nm2] at h2
  go_wp2_with (go_at_call 16; refine (errNum_any _ _).mono ?_; rintro e w' ⟨rfl, rfl⟩)
  refine (h1.out _ (by decide)).mono ?_
  rintro e W6 ⟨rfl, hb6⟩
  have hB6 := hid (hB5.out.trans (hb6.mono hB5.out.size))
  clear hb6
  go_wp2_with fail
  refine (h2.out _ (by decide)).mono ?_
  rintro e W7 ⟨rfl, hb7⟩
  have hB7 := hid (hB6.out.trans (hb7.mono hB6.out.size))
  clear hb7
  go_wp2_with fail
  go_ret
  exact ⟨rfl, hB7.out⟩

set_option maxRecDepth 100000 in
set_option maxHeartbeats 4000000 in
theorem Paths_law {w : World} (s : ByteArray) (hs : s.size ≤ maxLen) : Calls Try.prog 3 #[.string s] w fun e w' => e = .returned (.bool true) ∧ Below w.heap.size w w' := by
  go_enter Try.func3, Try.ntmps3
  go_wp2_with fail
  refine (Split_any s _ hs).mono ?_
  rintro e W1 ⟨A1, n1, c1, rfl, hT1, hB1⟩
  have hT1' := hid hT1
  have hB1' := hid hB1
  clear hT1 hB1
  go_wp2_with fail
  refine (refSplit_any s _ hs).mono ?_
  rintro e W2 ⟨A2, n2, c2, rfl, hT2, hB2⟩
  obtain rfl : n1 = n2 := hT1'.out.len.symm.trans hT2.len
  have hT12 := hid (hT1'.out.below hB2)
  have hT2' := hid hT2
  have hB2' := hid (hB1'.out.trans (hB2.mono hB1'.out.size))
  have hz2 := hid hB2.size
  have hn1 : n1 ≤ 1000 := by
    have h1 := hT2.len
    rw [← h1]
    exact splitB_short s
  clear hT2 hB2
  obtain ⟨b, hb⟩ : ∃ b, Pth.nameOk s.data.toList = b := ⟨_, rfl⟩
  have h1 := hid (nameMay_any s)
  have h2 := hid (refNameMay_any s)
  rw [hb] at h1 h2
  clear hb
  have hbb : (b == b) = true := by cases b <;> rfl
  have hself : ((splitE s) == (splitE s)) = true := by simp
  go_wp2_with fail
  refine (SameTexts_any A1 n1 c1 (splitB s) A2 c2 W2.heap.size _ (hT12.out.more hz2.out) (by omega) hT2'.out).mono ?_
  rintro e w5 ⟨rfl, m5, rfl⟩
  have hB5 := hid (below_drewN hB2'.out m5)
  generalize W2.drewN m5 = W5 at hB5 ⊢
  go_wp2_with (go_at_call 16; refine (errNum_any _ _).mono ?_; rintro e w' ⟨rfl, rfl⟩)
  refine (h1.out _ hs).mono ?_
  rintro e W6 ⟨rfl, hb6⟩
  have hB6 := hid (hB5.out.trans (hb6.mono hB5.out.size))
  clear hb6
  go_wp2_with (go_at_call 18; refine (h2.out _ hs).mono ?_; rintro e w' ⟨rfl, rfl⟩)
  refine (awake16_any _).mono ?_
  rintro e W7 ⟨rfl, hb7⟩
  have hB7 := hid (hB6.out.trans (hb7.mono hB6.out.size))
  clear hb7
  go_wp2_with fail
  go_ret
  exact ⟨rfl, hB7.out⟩

end Go.Proofs.Ytapegklffglnoaa
