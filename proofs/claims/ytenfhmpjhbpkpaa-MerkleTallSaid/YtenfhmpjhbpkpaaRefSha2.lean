/- The reference's Sha, whole. Made by tools/mkref.py. -/
import Derived.Test.YtenfhmpjhbpkpaaRefTail
import Derived.Test.YtenfhmpjhbpkpaaRefPad
namespace Go.Proofs.Ytenfhmpjhbpkpaa
open Go.RowKit

theorem blocks_zero (l : List UInt8) : Sha.blocks l 0 = Sha.S8.first := rfl
attribute [local irreducible] Sha.compress Sha.blocks Sha.sha Sha.pad blkN

noncomputable def refPart (n : Nat) : Code := partSeq n ((Try.f23.body).getD .skip)
theorem ref_body : Try.f23.body = some (.seq (refPart 0) (.seq (refPart 1) (.seq (refPart 2) (.seq (refPart 3) (.seq (refPart 4) (.seq (rshaReg 8) refTail)))))) := by kernel_rfl

set_option maxRecDepth 100000 in
set_option maxHeartbeats 2000000 in
theorem rsha_any (x : ByteArray) (w : World) (hx : x.size < 1152921504606846976) : Calls Try.prog 23 #[.string x] w fun e w' => e = .returned (hashV x.data.toList) ∧ Below w.heap.size w w' := by
  obtain ⟨W1, hW1⟩ : ∃ W1, w.alloc (.cells z32 28) = W1 := ⟨_, rfl⟩
  have hs1 : W1.heap.size = w.heap.size + 1 := by rw [← hW1]; simp
  have hb1 : Below w.heap.size w W1 := by rw [← hW1]; exact (Below.refl _ _).alloc (Nat.le_refl _) _
  have ho1 : Holds W1 w.heap.size 28 z32.toList := by rw [← hW1]; exact Holds.new w _ _
  have hW1' := hid hW1
  have hs1' := hid hs1
  have hb1' := hid hb1
  have ho1' := hid ho1
  clear hW1 hs1 hb1 ho1
  obtain ⟨q, hqx⟩ : ∃ q, x.size / 64 = q := ⟨_, rfl⟩
  have hwh : (x.size : Int) / 64 * 64 = 64 * (q : Int) := by omega
  have hwh' := hid hwh
  clear hwh
  have hqx' := hid hqx
  clear hqx
  refine calls_of_wp Try.func23 ref_body ?_
  have hfr : (#[.string x] ++ Array.replicate (Try.f23.ntmps - (#[.string x] : Array Value).size) undef : Array Value) = #[.string x, undef, undef, undef, undef, undef, undef, undef, undef, undef, undef, undef, undef, undef, undef, undef, undef, undef, undef, undef, undef, undef, undef, undef, undef, undef, undef, undef, undef, undef, undef, undef, undef, undef, undef, undef, undef, undef, undef, undef, undef, undef, undef, undef, undef, undef, undef, undef, undef, undef, undef, undef, undef, undef, undef, undef, undef, undef, undef, undef, undef, undef, undef, undef, undef, undef, undef, undef, undef, undef, undef, undef, undef, undef, undef] := by kernel_rfl
  rw [hfr]
  refine wp_seq ?_
  conv => arg 2; whnf
  go_wp2_with ((with_reducible refine at_slot (some 2) ?_); refine wpList_run rfl (.pointer (some ⟨w.heap.size, 0, none⟩)) (w.alloc (.cells z32 28)) (by kernel_rfl) ?_; rw [hW1'.out])
  conv => arg 2; whnf
  go_wp2_with (first
    | ((with_reducible refine at_slot (some 3) ?_); refine wpList_run rfl (.pointer (some ⟨W1.heap.size, 0, none⟩)) (W1.alloc (.cells z8 66)) (by kernel_rfl) ?_)
    | ((with_reducible refine at_slot none ?_); refine wpList_store_mid rfl 66 (.tmp 3) (.tmp 10) rfl W1.heap.size 0 (wordCells Sha.S8.first.list).toArray rfl rfl (by exact (Holds.new _ _ _).there 0 8 z8_le) (by exact Try.sizeW8) (by exact all_oneCell_toArray (wordCells_one _)) ?_; generalize hW2 : World.setCells _ _ _ _ = W2))
  conv => arg 2; whnf
  go_wp2_with fail
  rw [hwh'.out, hs1'.out]
  have hq2 : RefQ w W2 (w.heap.size + 1) Sha.S8.first := by
    have h0 := Holds.new W1 66 z8
    have h1 := h0.put 0 (wordCells Sha.S8.first.list) (by decide)
    rw [put_all _ _ (by decide)] at h1
    have h2 := (ho1'.out.alloc (.cells z8 66)).fars W1.heap.size 0 (wordCells Sha.S8.first.list) (by rw [hs1'.out]; omega)
    have h3 := below_setCells (hb1'.out.alloc hb1'.out.size (.cells z8 66)) W1.heap.size 0 (wordCells Sha.S8.first.list) hb1'.out.size
    rw [hs1'.out] at hW2
    rw [hs1'.out] at h1 h2 h3
    rw [hW2] at h1 h2 h3
    exact ⟨h1, h2, h3⟩
  have hq2' := hid hq2
  clear hW2 hq2
  have hx' := hid hx
  clear hx
  conv => arg 2; whnf
  go_wp2_with fail
  go_loopw [5] (fun i wr => ∃ k : Nat, k ≤ q ∧ i = .int .i64 (64 * (k : Int)) ∧ RefQ w wr (w.heap.size + 1) (Sha.blocks x.data.toList k)) (fun i _ => (64 * q - (intOf i).toNat))
  case atStart => exact ⟨0, Nat.zero_le _, rfl, by rw [blocks_zero]; exact hq2'.out⟩
  case round =>
    obtain ⟨k, hk, rfl, hq⟩ := hrel
    by_cases hlt : k < q
    · have hqb : 64 * q ≤ x.size := by have := hqx'.out; omega
      have q0 : (64 : Int) * k < 64 * (q : Int) := by omega
      have s1 := IntWalk.i64_in (64 * (k : Int) + 64) (by have := hx'.out; omega)
      have p0 : (0 : Int) ≤ 64 * (k : Int) := by omega
      have p1 : 64 * (k : Int) ≤ 64 * (k : Int) + 64 := by omega
      have p2 : 64 * (k : Int) + 64 ≤ x.size := by omega
      have p3 : (0 : Int) ≤ 64 * (k : Int) + 64 := by omega
      have n0 : (64 * (k : Int)).toNat = 64 * k := by omega
      have n1 : (64 * (k : Int) + 64).toNat = 64 * k + 64 := by omega
      have hsz := hid (extract_size x (64 * k) 64 (by omega))
      have hnx := hid (text_block x k)
      generalize Sha.blocks x.data.toList k = st at *
      have hcall := fun w => block256_any st (x.extract (64 * k) (64 * k + 64)) hsz.out w
      generalize Sha.compress st (x.extract (64 * k) (64 * k + 64)).data.toList = st' at *
      have hcall' := hid hcall
      clear hcall
      have c0 : wr.cell? ⟨w.heap.size + 1, 0, none⟩ = some (.int .u32 (u st.a)) := hq.h.cell 0
      have c1 : wr.cell? ⟨w.heap.size + 1, 1, none⟩ = some (.int .u32 (u st.b)) := hq.h.cell 1
      have c2 : wr.cell? ⟨w.heap.size + 1, 2, none⟩ = some (.int .u32 (u st.c)) := hq.h.cell 2
      have c3 : wr.cell? ⟨w.heap.size + 1, 3, none⟩ = some (.int .u32 (u st.d)) := hq.h.cell 3
      have c4 : wr.cell? ⟨w.heap.size + 1, 4, none⟩ = some (.int .u32 (u st.e)) := hq.h.cell 4
      have c5 : wr.cell? ⟨w.heap.size + 1, 5, none⟩ = some (.int .u32 (u st.f)) := hq.h.cell 5
      have c6 : wr.cell? ⟨w.heap.size + 1, 6, none⟩ = some (.int .u32 (u st.g)) := hq.h.cell 6
      have c7 : wr.cell? ⟨w.heap.size + 1, 7, none⟩ = some (.int .u32 (u st.h)) := hq.h.cell 7
      have hq' := hid hq
      clear hq
      go_wp2_with fail
      refine wp_region_still_tail 6 (by kernel_rfl) (by kernel_rfl) ?_
      simp only [List.take_succ_cons, List.take_zero, List.drop_succ_cons, List.drop_zero]
      repeat still_step
      refine wpStill_nil ?_
      change wpList _ _ _ _ _ wr.drew
      go_wp2_with fail
      refine (hcall'.out _).mono ?_
      rintro e w3 ⟨rfl, hb3⟩
      have hth := (hq'.out.h.drew.below hb3 hq'.out.h.lt).there 0 8 (by simp [wordCells, Sha.S8.list])
      rename_i hK1
      refine hK1 _ _ ?_
      refine wpList_store_mid rfl 66 (.tmp 3) (.tmp 26) rfl (w.heap.size + 1) 0 (wordCells st'.list).toArray rfl rfl (by exact hth) (by exact Try.sizeW8) (by exact all_oneCell_toArray (wordCells_one _)) ?_
      have hq3 := hid (hq'.out.step (s' := st') rfl hb3)
      go_wp2
      go_roundw
      case rel => exact ⟨k + 1, by omega, by go_num, by rw [hnx.out]; exact hq3.out⟩
      case measure => simp [intOf]; omega
    · obtain rfl : k = q := by omega
      have hqb : 64 * k ≤ x.size := by have := hqx'.out; omega
      have p0 : (0 : Int) ≤ 64 * (k : Int) := by omega
      have p1 : 64 * (k : Int) ≤ (x.size : Int) := by omega
      have n0 : (64 * (k : Int)).toNat = 64 * k := by omega
      have hsum : x.size - 64 * k + 1 ≤ 9223372036854775807 := by have := hx'.out; omega
      have hR0 : x.extract (64 * k) x.size ++ ⟨#[128]⟩ = padRest x := by unfold padRest; rw [hqx'.out]
      have hR0' := hid hR0
      have hq' := hid hq
      clear hR0 hq
      go_wp2_with fail
      conv => arg 2; whnf
      go_wp2_with fail
      rename_i hK
      rw [hR0'.out]
      obtain ⟨p, hp3, hp, hpp⟩ := padAll_size x
      have hps := padRest_size x
      have hpa : padRest x ++ zeroS ((120 - (padRest x).size % 64) % 64) ++ be 8 (x.size * 8) = padAll x := by rw [hps]; rfl
      refine rshaPad x (padRest x) hx'.out (by omega) ?_
      rw [hpa]
      intro _ _ _ _ _ _ _ _ _ _ _ _ _ _ w' hb
      refine hK _ _ ?_
      refine ref_tail x (padAll x) (Sha.blocks x.data.toList k) p hp (by omega) (hq'.out.below hb) ?_
      intro w2 hb2
      refine ⟨?_, hb2⟩
      have e := blkN_pad x p
      rw [← hpp, hqx'.out] at e
      rw [e]
      unfold hashV
      rw [Sha.sha_def]

end Go.Proofs.Ytenfhmpjhbpkpaa
