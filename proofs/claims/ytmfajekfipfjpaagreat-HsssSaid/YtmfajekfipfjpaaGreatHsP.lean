/- Layer 6, the reference: HssPublic. -/
import Derived.Test.YtmfajekfipfjpaaGreatHsM
set_option maxRecDepth 100000
namespace Go.Proofs.YtmfajekfipfjpaaGreat
open Go.RowKit
open Go.Lib (strCells strCells_length strCells_oneCell)
attribute [local irreducible] Sha.compress Sha.blocks Sha.sha Sha.pad

set_option maxHeartbeats 600000 in
theorem rHssPublic_bad (o ht : Int) (id seed : ByteArray) (nx : Int) (hok : hOk o ht id seed nx = false) (w : World) : Calls Tryz.prog 5 #[.agg #[.int .i64 o, .int .i64 ht, .string id, .string seed, .int .i64 nx]] w fun e w' => e = .returned (.tuple #[.string ⟨#[]⟩, .int .i64 600]) ∧ Below w.heap.size w w' := by
  obtain ⟨kc, hkc⟩ : ∃ kc, keyC o ht id seed nx = kc := ⟨_, rfl⟩
  have hW0' := hid (show w.alloc (.cells #[.int .i64 o, .int .i64 ht, .string id, .string seed, .int .i64 nx] 23) = w.alloc (.cells kc.toArray 23) from by rw [← hkc]; rfl)
  obtain ⟨W0, hW0⟩ : ∃ W0, w.alloc (.cells kc.toArray 23) = W0 := ⟨_, rfl⟩
  have hK0 := hid (show Holds W0 w.heap.size 23 kc from by rw [← hW0]; exact Holds.new _ _ kc.toArray)
  have hB0 := hid (show Below w.heap.size w W0 from by rw [← hW0]; exact (Below.refl _ _).alloc (Nat.le_refl _) _)
  have hCk := hid (show (Tryz.prog.info? 23).map (·.size) = some kc.length from by rw [← hkc]; exact sizeHss)
  have hmy := hid (fun W => show Calls Tryz.prog 16 #[.agg kc.toArray] W fun e w' => e = .returned (.bool (hOk o ht id seed nx)) ∧ Below W.heap.size W w' from by rw [← hkc]; exact rHssMay_any o ht id seed nx W)
  rw [hok] at hmy
  rw [hW0] at hW0'
  clear hW0 hkc hok
  go_enter Tryz.func5, Tryz.ntmps5
  go_wp2_with (first
    | ((with_reducible refine at_slot (some 1) ?_); refine wpList_run rfl (.pointer (some ⟨w.heap.size, 0, none⟩)) (w.alloc (.cells #[.int .i64 o, .int .i64 ht, .string id, .string seed, .int .i64 nx] 23)) (by kernel_rfl) ?_; rw [hW0'.out])
    | ((with_reducible refine at_slot (some 7) ?_); refine wpList_load_mid rfl 23 (.tmp 1) rfl w.heap.size 0 rfl kc _ (by exact h_all hK0.out) Tryz.underlying23 rfl (by exact hCk.out) ?_)
    | fail)
  refine (hmy.out _).mono ?_
  rintro e W1 ⟨rfl, hb⟩
  have hB1 := zup hb hB0
  clear hb
  go_wp2_with fail
  go_ret2
  exact ⟨rfl, hB1.out⟩

set_option maxHeartbeats 1000000 in
theorem rHssPublic_good (p : Ots.Par) (kd h q : Nat) (hpar : Ots.par (kd : Int) = some p) (h1 : 1 ≤ h) (h5 : h ≤ 5) (id seed : ByteArray) (hi16 : id.size = 16) (hs32 : seed.size = 32) (hq : q ≤ 2 ^ (2 * h)) (hok : hOk (kd : Int) (h : Int) id seed (q : Int) = true) (w : World) : Calls Tryz.prog 5 #[.agg #[.int .i64 (kd : Int), .int .i64 (h : Int), .string id, .string seed, .int .i64 (q : Int)]] w fun e w' => e = .returned (.tuple #[.string (hPubT p kd h id seed), .int .i64 0]) ∧ Below w.heap.size w w' := by
  obtain ⟨kc, hkc⟩ : ∃ kc, keyC (kd : Int) (h : Int) id seed (q : Int) = kc := ⟨_, rfl⟩
  have hW0' := hid (show w.alloc (.cells #[.int .i64 (kd : Int), .int .i64 (h : Int), .string id, .string seed, .int .i64 (q : Int)] 23) = w.alloc (.cells kc.toArray 23) from by rw [← hkc]; rfl)
  obtain ⟨W0, hW0⟩ : ∃ W0, w.alloc (.cells kc.toArray 23) = W0 := ⟨_, rfl⟩
  have hK0 := hid (show Holds W0 w.heap.size 23 kc from by rw [← hW0]; exact Holds.new _ _ kc.toArray)
  have hB0 := hid (show Below w.heap.size w W0 from by rw [← hW0]; exact (Below.refl _ _).alloc (Nat.le_refl _) _)
  have hCk := hid (show (Tryz.prog.info? 23).map (·.size) = some kc.length from by rw [← hkc]; exact sizeHss)
  have hmy := hid (fun W => show Calls Tryz.prog 16 #[.agg kc.toArray] W fun e w' => e = .returned (.bool (hOk (kd : Int) (h : Int) id seed (q : Int))) ∧ Below W.heap.size W w' from by rw [← hkc]; exact rHssMay_any (kd : Int) (h : Int) id seed (q : Int) W)
  rw [hok] at hmy
  rw [hW0] at hW0'
  have hq10 : 2 ^ (2 * h) ≤ 1024 := Nat.le_trans (Nat.pow_le_pow_right (by decide) (show 2 * h ≤ 10 by omega)) (by decide)
  obtain ⟨u, hu⟩ : ∃ u, q / 2 ^ h = u := ⟨_, rfl⟩
  obtain ⟨ka, hka⟩ : ∃ k, keyC (kd : Int) (h : Int) id seed (u : Int) = k := ⟨_, rfl⟩
  obtain ⟨kb, hkb⟩ : ∃ k, keyC (kd : Int) (h : Int) id seed 0 = k := ⟨_, rfl⟩
  have hUp := hid (fun W => show Calls Tryz.prog 17 #[.agg kc.toArray] W fun e w' => e = .returned (.agg ka.toArray) ∧ Below W.heap.size W w' from by rw [← hkc, ← hka, ← hu]; exact rUpper_any kd h q h5 (by omega) id seed W)
  have hPu := hid (fun W => show Calls Tryz.prog 18 #[.agg kb.toArray] W fun e w' => e = .returned (.tuple #[.string (pubT p kd h id seed), .int .i64 0]) ∧ Below W.heap.size W w' from by rw [← hkb]; exact rLmsPublic_good p kd h hpar h1 h5 id seed hi16 hs32 0 (keyOk_mk hpar h1 h5 hi16 hs32 (Nat.zero_le _)) W)
  have hU2 := hid (fun W => show Calls Tryz.prog 19 #[.int .i64 2, .int .i64 4] W fun e w' => e = .returned (.string (be 4 2)) ∧ Below W.heap.size W w' from Be_any 2 4 4 rfl (by decide) 2 rfl (by omega) W)
  have hCa := hid (show KeyL ka from by rw [← hka]; exact keyL _ _ _ _ _)
  have hCb := hid (show KeyL kb from by rw [← hkb]; exact keyL _ _ _ _ _)
  have ka4 := hid (show ka[4]? = some (.int .i64 (u : Int)) from by rw [← hka]; rfl)
  have hset := hid (show ka.set 4 (.int .i64 0) = kb from by rw [← hka, ← hkb]; rfl)
  have hsz := pubT_size p kd h id seed hi16
  obtain ⟨pt, hpt⟩ : ∃ t, pubT p kd h id seed = t := ⟨_, rfl⟩
  have hans := hid (show be 4 2 ++ pt = hPubT p kd h id seed from by rw [← hpt]; rfl)
  rw [hpt] at hPu hsz
  obtain ⟨b2, hb2⟩ : ∃ b, be 4 2 = b := ⟨_, rfl⟩
  have sb2 : b2.size = 4 := by rw [← hb2, be_size]
  rw [hb2] at hU2 hans
  have z1 : b2.size + pt.size ≤ 9223372036854775807 := by omega
  clear hW0 hkc hok hu hka hkb hq10 hpt hb2 sb2 hsz hpar hi16 hs32 hq h1 h5
  go_enter Tryz.func5, Tryz.ntmps5
  go_wp2_with (first
    | ((with_reducible refine at_slot (some 1) ?_); refine wpList_run rfl (.pointer (some ⟨w.heap.size, 0, none⟩)) (w.alloc (.cells #[.int .i64 (kd : Int), .int .i64 (h : Int), .string id, .string seed, .int .i64 (q : Int)] 23)) (by kernel_rfl) ?_; rw [hW0'.out])
    | ((with_reducible refine at_slot (some 7) ?_); refine wpList_load_mid rfl 23 (.tmp 1) rfl w.heap.size 0 rfl kc _ (by exact h_all hK0.out) Tryz.underlying23 rfl (by exact hCk.out) ?_)
    | fail)
  refine (hmy.out _).mono ?_
  rintro e W1 ⟨rfl, hb⟩
  have hK1 := zon hb hK0
  have hB1 := zup hb hB0
  clear hb hK0 hB0
  go_wp2_with (first
    | ((with_reducible refine at_slot (some 10) ?_); refine wpList_load_mid rfl 23 (.tmp 1) rfl w.heap.size 0 rfl kc _ (by exact h_all hK1.out) Tryz.underlying23 rfl (by exact hCk.out) ?_)
    | fail)
  refine (hUp.out _).mono ?_
  rintro e W2 ⟨rfl, hb⟩
  have hK2 := zon hb hK1
  have hB2 := zup hb hB1
  clear hb hK1 hB1
  try (rename_i hJJ; refine hJJ _ _ ?_; clear hJJ)
  have hg := hid (show w.heap.size < W2.heap.size from hK2.out.lt)
  go_wp2_with (first
    | ((with_reducible refine at_slot (some 4) ?_); refine wpList_run rfl (.pointer (some ⟨W2.heap.size, 0, none⟩)) (W2.alloc (.cells zk.toArray 39)) (by kernel_rfl) ?_)
    | ((with_reducible refine at_slot none ?_); refine wpList_store_mid rfl 39 (.tmp 4) (.tmp 11) rfl W2.heap.size 0 ka.toArray rfl rfl (by exact hss_there W2 _ hCa.out.len) (by exact hCa.out.size) (by exact hCa.out.one) ?_; generalize hW : World.setCells _ _ _ _ = W3; obtain ⟨hN, hb⟩ := hss_new hCa.out.len hW; have hK3 := zon hb hK2; have hB3 := zup hb hB2; have hU3 := hid hN; clear hb hK2 hB2 hN; have d4 := hU3.out.c 4 _ ka4.out; have f4 := hU3.out.frozen 4; clear hW)
    | ((with_reducible refine at_slot (some 14) ?_); obtain ⟨V7, hV7⟩ : ∃ V7, W3.setCell ⟨W2.heap.size, 4, none⟩ (.int .i64 0) = V7 := ⟨_, rfl⟩; have hX7 : W3.setCells W2.heap.size 4 [.int .i64 0] = V7 := hV7; have hU8 := hid (show Holds V7 W2.heap.size 39 kb from by rw [← hset.out, ← hV7]; exact hU3.out.set 4 _); have hB8 := hid (below_put hB3.out (by have := hg.out; omega) hX7); rw [hV7]; clear hV7 hX7 d4 f4 hU3 hB3 hK3; refine wpList_load_mid rfl 39 (.tmp 4) rfl W2.heap.size 0 rfl kb _ (by exact h_all hU8.out) Tryz.underlying39 rfl (by exact hCb.out.size') ?_)
    | fail)
  refine (hPu.out _).mono ?_
  rintro e W9 ⟨rfl, hb⟩
  have hU9 := zon hb hU8
  have hB9 := zup hb hB8
  clear hb hU8 hB8
  try (rename_i hJJ; refine hJJ _ _ ?_; clear hJJ)
  go_wp2_with fail
  refine (hU2.out _).mono ?_
  rintro e W10 ⟨rfl, hb⟩
  have hU10 := zon hb hU9
  have hB10 := zup hb hB9
  clear hb hU9 hB9
  go_wp2_with fail
  go_ret2
  exact ⟨by rw [hans.out]; rfl, hB10.out⟩

end Go.Proofs.YtmfajekfipfjpaaGreat
