/- Layer 10's statements: what every program answers that is one. -/
import Derived.Test.YtenfhmpjhbpkpaaPfK
import Derived.Test.YtenfhmpjhbpkpaaPfM
import Derived.Test.YtenfhmpjhbpkpaaLendH
import Derived.Test.YtenfhmpjhbpkpaaNum0
namespace Go.Proofs.Ytenfhmpjhbpkpaa
open Go.RowKit
open Go.Lib (strCells strCells_length strCells_oneCell)
attribute [local irreducible] Sha.compress Sha.blocks Sha.sha Sha.pad

def l3 : List ByteArray := [⟨#[97]⟩, ⟨#[98]⟩, ⟨#[99]⟩]
theorem l3_inc : (incL l3 2).length = 1 ∧ incE l3 2 = 0 := by decide +kernel
theorem l3_con : (conL l3 1).length = 2 ∧ conE l3 1 = 0 := by decide +kernel
theorem l3_inc3 : (incL l3 3).length = 0 ∧ incE l3 3 = 1000 := by decide +kernel
theorem l3_con0 : (conL l3 0).length = 0 ∧ conE l3 0 = 1000 := by decide +kernel
theorem l3_f : ckIncE (leafH (ByteArray.mk #[99]).data.toList) 2 3 (incL l3 2) (rootH l3) = 0 := (inc_ok l3 2 ⟨#[99]⟩ rfl (by decide)).1
theorem l3_g : ckIncE (leafH (ByteArray.mk #[100]).data.toList) 2 3 (incL l3 2) (rootH l3) = 1001 := by decide +kernel
theorem l3_i : ckConE 1 (rootH [⟨#[97]⟩]) 3 (rootH l3) (conL l3 1) = 0 := (con_ok l3 1 (by decide) (by decide) (by decide)).1
theorem l3_j : ckConE 1 (rootH [⟨#[98]⟩]) 3 (rootH l3) (conL l3 1) = 1001 := by decide +kernel

set_option maxRecDepth 100000 in
set_option maxHeartbeats 4000000 in
theorem awake10_any (w : World) : Calls Try.prog 33 #[] w fun e w' => e = .returned (.bool true) ∧ Below w.heap.size w w' := by
  have hs3 : ∀ s ∈ l3, s.size ≤ 140737488351232 := by decide
  have hs1 : ∀ s ∈ [(⟨#[97]⟩ : ByteArray)], s.size ≤ 140737488351232 := by decide
  have hs2 : ∀ s ∈ [(⟨#[98]⟩ : ByteArray)], s.size ≤ 140737488351232 := by decide
  have hr3 := rootH_len l3
  have hr1 := rootH_len [⟨#[97]⟩]
  have hr2 := rootH_len [⟨#[98]⟩]
  have hI := hid (fun W A (h : Texts W W.heap.size A 3 l3) => (pInclusion_any A 3 3 l3 2 W h (by decide) hs3).mono (R' := fun e w' => ∃ A' c', e = .returned (.tuple #[.slice A' 1 c', .int .i64 0]) ∧ Hashs w' w'.heap.size A' 1 (incL l3 2) ∧ 1 ≤ c' ∧ Below W.heap.size W w') fun e w' ⟨A', c', h1, h2, h3, _, _, h6⟩ => ⟨A', c', by rw [h1, l3_inc.1, l3_inc.2], by rw [l3_inc.1] at h2; exact h2, by rw [l3_inc.1] at h3; exact h3, h6⟩)
  have hI3 := hid (fun W A (h : Texts W W.heap.size A 3 l3) => (pInclusion_any A 3 3 l3 3 W h (by decide) hs3).mono (R' := fun e w' => ∃ A' c', e = .returned (.tuple #[.slice A' 0 c', .int .i64 1000]) ∧ Below W.heap.size W w') fun e w' ⟨A', c', h1, h2, h3, _, _, h6⟩ => ⟨A', c', by rw [h1, l3_inc3.1, l3_inc3.2], h6⟩)
  have hC := hid (fun W A (h : Texts W W.heap.size A 3 l3) => (pConsistency_any A 3 3 l3 1 W h (by decide) hs3).mono (R' := fun e w' => ∃ A' c', e = .returned (.tuple #[.slice A' 2 c', .int .i64 0]) ∧ Hashs w' w'.heap.size A' 2 (conL l3 1) ∧ 2 ≤ c' ∧ Below W.heap.size W w') fun e w' ⟨A', c', h1, h2, h3, _, _, h6⟩ => ⟨A', c', by rw [h1, l3_con.1, l3_con.2], by rw [l3_con.1] at h2; exact h2, by rw [l3_con.1] at h3; exact h3, h6⟩)
  have hC0 := hid (fun W A (h : Texts W W.heap.size A 3 l3) => (pConsistency_any A 3 3 l3 0 W h (by decide) hs3).mono (R' := fun e w' => ∃ A' c', e = .returned (.tuple #[.slice A' 0 c', .int .i64 1000]) ∧ Below W.heap.size W w') fun e w' ⟨A', c', h1, h2, h3, _, _, h6⟩ => ⟨A', c', by rw [h1, l3_con0.1, l3_con0.2], h6⟩)
  have hR := hid (fun W A (h : Texts W W.heap.size A 3 l3) => rRoot_any 3 A 3 l3 W.heap.size W h (Nat.le_refl _) (by decide) (by decide) hs3)
  have hR1 := hid (fun W A (h : Texts W W.heap.size A 3 l3) => rRoot_any 1 A 3 [⟨#[97]⟩] W.heap.size W (h.take (k := 1) (by decide)) (Nat.le_refl _) (by decide) (by decide) hs1)
  have hR2 := hid (fun W b (h : Texts W W.heap.size (some ⟨b, 0, none⟩) 3 l3) => rRoot_any 1 (some ⟨b, 1, none⟩) 2 [⟨#[98]⟩] W.heap.size W (by have h2 := h.part (lo := 1) (hi := 2) (by decide) (by decide); simpa [Addr.add, Mth.seg, l3] using h2) (Nat.le_refl _) (by decide) (by decide) hs2)
  have hF := hid (fun W A c (h : Hashs W W.heap.size A 1 (incL l3 2)) (hc : 1 ≤ c) => pCheckInc_any ⟨#[99]⟩ 2 3 A 1 c (incL l3 2) (rootH l3) W (by decide) h hc hr3)
  have hG := hid (fun W A c (h : Hashs W W.heap.size A 1 (incL l3 2)) (hc : 1 ≤ c) => pCheckInc_any ⟨#[100]⟩ 2 3 A 1 c (incL l3 2) (rootH l3) W (by decide) h hc hr3)
  have hKk := hid (fun W A c (h : Hashs W W.heap.size A 2 (conL l3 1)) (hc : 2 ≤ c) => pCheckCon_any 1 3 A 2 c (conL l3 1) (rootH [⟨#[97]⟩]) (rootH l3) W h hc (by decide) hr1 hr3)
  have hM := hid (fun W A c (h : Hashs W W.heap.size A 2 (conL l3 1)) (hc : 2 ≤ c) => pCheckCon_any 1 3 A 2 c (conL l3 1) (rootH [⟨#[98]⟩]) (rootH l3) W h hc (by decide) hr2 hr3)
  rw [l3_f] at hF
  rw [l3_g] at hG
  rw [l3_i] at hKk
  rw [l3_j] at hM
  have hX0 := hid (show Texts (w.alloc (.cells #[.string ⟨#[97]⟩, .string ⟨#[98]⟩, .string ⟨#[99]⟩] 9)) (w.alloc (.cells #[.string ⟨#[97]⟩, .string ⟨#[98]⟩, .string ⟨#[99]⟩] 9)).heap.size (some ⟨w.heap.size, 0, none⟩) 3 l3 from by rw [World.size_alloc]; exact At.new w _ 3 _ _ rfl rfl)
  have hB0 := hid ((Below.refl w.heap.size w).alloc (Nat.le_refl _) (.cells #[.string ⟨#[97]⟩, .string ⟨#[98]⟩, .string ⟨#[99]⟩] 9))
  unfold hv at hR hR1 hR2 hF hG hKk hM
  clear hs3 hs1 hs2 hr3 hr1 hr2
  generalize incL l3 2 = P at *
  generalize conL l3 1 = Q at *
  generalize byteCells (rootH l3) = cr at *
  generalize byteCells (rootH [⟨#[97]⟩]) = ca at *
  generalize byteCells (rootH [⟨#[98]⟩]) = cb at *
  go_enter Try.func33, Try.ntmps33
  go_wp2_with fail
  refine (hI.out _ _ hX0.out).mono ?_
  rintro e W1 ⟨A1, c1, rfl, hN, hc1, hb⟩
  have hX1 := hid ((hX0.out.below hb).more hb.size)
  have hB1 := hid (below_up hb hB0.out)
  have hP1 := hid hN
  clear hb hX0 hB0 hN
  try (rename_i hK1; refine hK1 _ _ ?_; clear hK1)
  go_wp2_with fail
  refine (hR.out _ _ hX1.out).mono ?_
  rintro e W2 ⟨rfl, hb⟩
  have hX2 := hid ((hX1.out.below hb).more hb.size)
  have hB2 := hid (below_up hb hB1.out)
  have hP2 := hid ((hP1.out.below hb).more hb.size)
  clear hb hX1 hB1 hP1
  try (rename_i hK1; refine hK1 _ _ ?_; clear hK1)
  go_wp2_with fail
  refine (hF.out _ _ _ hP2.out hc1).mono ?_
  rintro e W3 ⟨rfl, hb⟩
  have hX3 := hid ((hX2.out.below hb).more hb.size)
  have hB3 := hid (below_up hb hB2.out)
  have hP3 := hid ((hP2.out.below hb).more hb.size)
  clear hb hX2 hB2 hP2
  try (rename_i hK1; refine hK1 _ _ ?_; clear hK1)
  go_wp2_with fail
  refine (hR.out _ _ hX3.out).mono ?_
  rintro e W4 ⟨rfl, hb⟩
  have hX4 := hid ((hX3.out.below hb).more hb.size)
  have hB4 := hid (below_up hb hB3.out)
  have hP4 := hid ((hP3.out.below hb).more hb.size)
  clear hb hX3 hB3 hP3
  try (rename_i hK1; refine hK1 _ _ ?_; clear hK1)
  go_wp2_with fail
  refine (hG.out _ _ _ hP4.out hc1).mono ?_
  rintro e W5 ⟨rfl, hb⟩
  have hX5 := hid ((hX4.out.below hb).more hb.size)
  have hB5 := hid (below_up hb hB4.out)
  have hP5 := hid ((hP4.out.below hb).more hb.size)
  clear hb hX4 hB4 hP4
  try (rename_i hK1; refine hK1 _ _ ?_; clear hK1)
  go_wp2_with fail
  refine (hC.out _ _ hX5.out).mono ?_
  rintro e W6 ⟨A2, c2, rfl, hN, hc2, hb⟩
  have hX6 := hid ((hX5.out.below hb).more hb.size)
  have hB6 := hid (below_up hb hB5.out)
  have hP6 := hid ((hP5.out.below hb).more hb.size)
  have hQ6 := hid hN
  clear hb hX5 hB5 hP5 hN
  try (rename_i hK1; refine hK1 _ _ ?_; clear hK1)
  go_wp2_with fail
  refine (hR1.out _ _ hX6.out).mono ?_
  rintro e W7 ⟨rfl, hb⟩
  have hX7 := hid ((hX6.out.below hb).more hb.size)
  have hB7 := hid (below_up hb hB6.out)
  have hP7 := hid ((hP6.out.below hb).more hb.size)
  have hQ7 := hid ((hQ6.out.below hb).more hb.size)
  clear hb hX6 hB6 hP6 hQ6
  try (rename_i hK1; refine hK1 _ _ ?_; clear hK1)
  go_wp2_with fail
  refine (hR.out _ _ hX7.out).mono ?_
  rintro e W8 ⟨rfl, hb⟩
  have hX8 := hid ((hX7.out.below hb).more hb.size)
  have hB8 := hid (below_up hb hB7.out)
  have hP8 := hid ((hP7.out.below hb).more hb.size)
  have hQ8 := hid ((hQ7.out.below hb).more hb.size)
  clear hb hX7 hB7 hP7 hQ7
  try (rename_i hK1; refine hK1 _ _ ?_; clear hK1)
  go_wp2_with fail
  refine (hKk.out _ _ _ hQ8.out hc2).mono ?_
  rintro e W9 ⟨rfl, hb⟩
  have hX9 := hid ((hX8.out.below hb).more hb.size)
  have hB9 := hid (below_up hb hB8.out)
  have hP9 := hid ((hP8.out.below hb).more hb.size)
  have hQ9 := hid ((hQ8.out.below hb).more hb.size)
  clear hb hX8 hB8 hP8 hQ8
  try (rename_i hK1; refine hK1 _ _ ?_; clear hK1)
  go_wp2_with fail
  refine (hR2.out _ _ hX9.out).mono ?_
  rintro e W10 ⟨rfl, hb⟩
  have hX10 := hid ((hX9.out.below hb).more hb.size)
  have hB10 := hid (below_up hb hB9.out)
  have hP10 := hid ((hP9.out.below hb).more hb.size)
  have hQ10 := hid ((hQ9.out.below hb).more hb.size)
  clear hb hX9 hB9 hP9 hQ9
  try (rename_i hK1; refine hK1 _ _ ?_; clear hK1)
  go_wp2_with fail
  refine (hR.out _ _ hX10.out).mono ?_
  rintro e W11 ⟨rfl, hb⟩
  have hX11 := hid ((hX10.out.below hb).more hb.size)
  have hB11 := hid (below_up hb hB10.out)
  have hP11 := hid ((hP10.out.below hb).more hb.size)
  have hQ11 := hid ((hQ10.out.below hb).more hb.size)
  clear hb hX10 hB10 hP10 hQ10
  try (rename_i hK1; refine hK1 _ _ ?_; clear hK1)
  go_wp2_with fail
  refine (hM.out _ _ _ hQ11.out hc2).mono ?_
  rintro e W12 ⟨rfl, hb⟩
  have hX12 := hid ((hX11.out.below hb).more hb.size)
  have hB12 := hid (below_up hb hB11.out)
  have hP12 := hid ((hP11.out.below hb).more hb.size)
  have hQ12 := hid ((hQ11.out.below hb).more hb.size)
  clear hb hX11 hB11 hP11 hQ11
  try (rename_i hK1; refine hK1 _ _ ?_; clear hK1)
  go_wp2_with fail
  refine (hC0.out _ _ hX12.out).mono ?_
  rintro e W13 ⟨A3, c3, rfl, hb⟩
  have hX13 := hid ((hX12.out.below hb).more hb.size)
  have hB13 := hid (below_up hb hB12.out)
  have hP13 := hid ((hP12.out.below hb).more hb.size)
  have hQ13 := hid ((hQ12.out.below hb).more hb.size)
  clear hb hX12 hB12 hP12 hQ12
  try (rename_i hK1; refine hK1 _ _ ?_; clear hK1)
  go_wp2_with fail
  refine (hI3.out _ _ hX13.out).mono ?_
  rintro e W14 ⟨A4, c4, rfl, hb⟩
  have hX14 := hid ((hX13.out.below hb).more hb.size)
  have hB14 := hid (below_up hb hB13.out)
  have hP14 := hid ((hP13.out.below hb).more hb.size)
  have hQ14 := hid ((hQ13.out.below hb).more hb.size)
  clear hb hX13 hB13 hP13 hQ13
  try (rename_i hK1; refine hK1 _ _ ?_; clear hK1)
  go_wp2_with (go_at_call 25; refine (errNum_any _ _).mono ?_; rintro e w' ⟨rfl, rfl⟩)
  go_ret
  exact ⟨rfl, hB14.out⟩

end Go.Proofs.Ytenfhmpjhbpkpaa
