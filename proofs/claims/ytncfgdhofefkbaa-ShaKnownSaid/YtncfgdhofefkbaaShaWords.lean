/- The statements' helper 'words': a hash of eight words. -/
import Derived.Test.YtncfgdhofefkbaaRefTail
import Derived.Test.YtncfgdhofefkbaaRefPad
namespace Go.Proofs.Ytncfgdhofefkbaa
open Go.RowKit
attribute [local irreducible] Sha.compress Sha.blocks Sha.sha Sha.pad blkN

set_option maxRecDepth 100000 in
set_option maxHeartbeats 1000000 in
theorem words_any (st : Sha.S8) (w : World) : Calls Try.prog 17 #[s8Agg st] w fun e w' => e = .returned (.agg (byteCells st.bytes).toArray) ∧ Below w.heap.size w w' := by
  obtain ⟨W1, hW1⟩ : ∃ W1, w.alloc (.cells (wordCells st.list).toArray 38) = W1 := ⟨_, rfl⟩
  obtain ⟨W2, hW2⟩ : ∃ W2, W1.alloc (.cells z32 28) = W2 := ⟨_, rfl⟩
  obtain ⟨W3, hW3⟩ : ∃ W3, W2.alloc (.cells z32 28) = W3 := ⟨_, rfl⟩
  have hs1 : W1.heap.size = w.heap.size + 1 := by rw [← hW1]; simp
  have hs2 : W2.heap.size = w.heap.size + 2 := by rw [← hW2]; simp [hs1]
  have h1 : Holds W3 w.heap.size 38 (wordCells st.list) := by rw [← hW3, ← hW2, ← hW1]; exact ((Holds.new w _ _).alloc _).alloc _
  have h2 : Holds W3 (w.heap.size + 1) 28 z32.toList := by rw [← hW3, ← hW2, ← hs1]; exact (Holds.new W1 _ _).alloc _
  have h3 : Holds W3 (w.heap.size + 2) 28 z32.toList := by rw [← hW3, ← hs2]; exact Holds.new W2 _ _
  have hb : Below w.heap.size w W3 := by rw [← hW3, ← hW2, ← hW1]; exact (((Below.refl _ _).alloc (Nat.le_refl _) _).alloc (by simp) _).alloc (by simp; omega) _
  have hW1' := hid hW1
  have hW2' := hid hW2
  have hW3' := hid hW3
  have hs1' := hid hs1
  have hs2' := hid hs2
  have h1' := hid h1
  have h2' := hid h2
  have h3' := hid h3
  have hb' := hid hb
  clear hW1 hW2 hW3 hs1 hs2 h1 h2 h3 hb
  go_enter Try.func17, Try.ntmps17
  go_wp2_with (first
    | ((with_reducible refine at_slot (some 1) ?_); refine wpList_run rfl (.pointer (some ⟨w.heap.size, 0, none⟩)) (w.alloc (.cells (wordCells st.list).toArray 38)) (by kernel_rfl) ?_; rw [hW1'.out])
    | ((with_reducible refine at_slot (some 2) ?_); refine wpList_run rfl (.pointer (some ⟨W1.heap.size, 0, none⟩)) (W1.alloc (.cells z32 28)) (by kernel_rfl) ?_; rw [hW2'.out, hs1'.out])
    | ((with_reducible refine at_slot (some 3) ?_); refine wpList_run rfl (.pointer (some ⟨W2.heap.size, 0, none⟩)) (W2.alloc (.cells z32 28)) (by kernel_rfl) ?_; rw [hW3'.out, hs2'.out]))
  go_loopw [4] (fun i wr => ∃ k : Nat, k ≤ 32 ∧ i = .int .i64 (k : Int) ∧ Holds wr w.heap.size 38 (wordCells st.list) ∧ Holds wr (w.heap.size + 1) 28 z32.toList ∧ Holds wr (w.heap.size + 2) 28 (outC st.bytes k) ∧ Below w.heap.size w wr) (fun i _ => 32 - (intOf i).toNat)
  case atStart => exact ⟨0, by omega, rfl, h1'.out, h2'.out, by rw [outC_zero]; exact h3'.out, hb'.out⟩
  case round =>
    obtain ⟨k, hk, rfl, hq1, hq2, hO, hB⟩ := hrel
    by_cases hlt : k < 32
    · obtain ⟨a, b, ha, hb, rfl⟩ : ∃ a b, a < 8 ∧ b < 4 ∧ k = 4 * a + b := ⟨k / 4, k % 4, by omega, by omega, by omega⟩
      have c0 : ∀ v, v = wr.cell? ⟨w.heap.size, a, none⟩ → v = some (.int .u32 (u (st.list.getD a 0))) := fun v hv => hv.trans ((hq1.cell a).trans (s8_get st a ha))
      replace c0 := c0 _ rfl
      have cO := (hO.cell (4 * a + b)).trans (outC_get _ (s8_bytes_length st) _ hlt)
      have fO := hO.frozen (4 * a + b)
      have hstep := hid (outC_step st a b ha hb)
      have hq1' := hid hq1
      have hq2' := hid hq2
      have hO' := hid hO
      have hB' := hid hB
      generalize hkk : 4 * a + b = k at *
      have hkk' := hid hkk
      have d0 : (k : Int) / 4 = (a : Int) := by omega
      have d1 : (k : Int).tmod 4 = (b : Int) := by rw [Int.tmod_eq_emod_of_nonneg (by omega)]; omega
      have d2 := IntWalk.i64_in (8 * (b : Int)) (by omega)
      have d3 := IntWalk.i64_in (24 - 8 * (b : Int)) (by omega)
      have d4 : (24 - 8 * (b : Int)).toNat = 24 - 8 * b := by omega
      have d5 : 0 ≤ 24 - 8 * (b : Int) := by omega
      have d6 : (a : Int) < 8 := by omega
      have d7 : (k : Int) < 32 := by omega
      clear hq1 hq2 hO hB hkk
      generalize st.list.getD a 0 = V at *
      go_wp2
      refine ⟨⟨k + 1, by omega, by go_num, hq1'.out.far _ (by show _ ≠ w.heap.size + 2; omega) _, hq2'.out.far _ (by show _ ≠ w.heap.size + 2; omega) _, ?_, hB'.out.setCell (by show _ ≤ w.heap.size + 2; omega) _⟩, by simp [intOf]; omega⟩
      rw [← hstep.out]
      exact hO'.out.set _ _
    · obtain rfl : k = 32 := by omega
      rw [outC_all _ (s8_bytes_length st)] at hO
      have hcl : (byteCells st.bytes).length = 32 := by rw [byteCells_length, s8_bytes_length]
      have hr : wr.rangeAt (w.heap.size + 2) 0 (byteCells st.bytes) := hO.range 0 _ (fun j _ => by rw [Nat.zero_add])
      have hth : wr.there (w.heap.size + 1) 0 (byteCells st.bytes).toArray.size := hq2.there 0 _ (by simp [hcl, z32])
      have hrs := hq2.put 0 (byteCells st.bytes) (by rw [hcl]; decide)
      rw [put_all _ _ (by rw [hcl]; decide)] at hrs
      have hb := below_setCells hB (w.heap.size + 1) 0 (byteCells st.bytes) (by omega)
      have h1c := all_oneCell_toArray (byteCells_one st.bytes)
      generalize hcs : byteCells st.bytes = cs at *
      have hcs' := hid hcs
      clear hcs
      have hrs' := hid hrs
      have hb2' := hid hb
      have hr' := hid hr
      have hth' := hid hth
      have h1c' := hid h1c
      clear hq1 hq2 hO hB hrs hb hr hth h1c
      go_wp2_with (first
        | ((with_reducible refine at_slot (some 21) ?_); refine wpList_load_mid rfl 28 (.tmp 3) rfl (w.heap.size + 2) 0 rfl cs _ (by exact hr'.out) Try.underlying28 rfl (by rw [Try.sizeHash, hcl]) ?_)
        | ((with_reducible refine at_slot none ?_); refine wpList_store_mid rfl 28 (.tmp 2) (.tmp 21) rfl (w.heap.size + 1) 0 cs.toArray rfl rfl (by exact hth'.out) (by rw [Try.sizeHash, List.size_toArray, hcl]) (by exact h1c'.out) ?_))
      refine bodyPost_ret (v := .agg cs.toArray) (results_cell_row rfl _ _ (w.heap.size + 1) 28 cs.toArray (0, 0) _ rfl hrs'.out Try.underlying28 rfl (by rw [Try.sizeHash, List.size_toArray, hcl])) rfl ⟨by rw [hcs'.out], hb2'.out⟩

end Go.Proofs.Ytncfgdhofefkbaa
