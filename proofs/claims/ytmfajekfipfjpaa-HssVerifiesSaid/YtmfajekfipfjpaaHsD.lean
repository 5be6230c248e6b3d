/- Layer 6, the program's side: Public, Sign. -/
import Derived.Test.YtmfajekfipfjpaaHsC
namespace Go.Proofs.Ytmfajekfipfjpaa
open Go.RowKit
open Go.Lib (strCells strCells_length strCells_oneCell)
attribute [local irreducible] Sha.compress Sha.blocks Sha.sha Sha.pad

theorem hss_new {W W7 : World} {cs : List Value} (hc : cs.length = 5) (h : (W.alloc (.cells zk.toArray 23)).setCells W.heap.size 0 cs = W7) : Holds W7 W.heap.size 23 cs ∧ Below W.heap.size W W7 := by
  have hH := Holds.new W 23 zk.toArray
  have hb : Below W.heap.size W (W.alloc (.cells zk.toArray 23)) := (Below.refl _ _).alloc (Nat.le_refl _) _
  exact ⟨Holds.over hH (by rw [hc]; rfl) h, below_put hb (Nat.le_refl _) h⟩
theorem hss_there (W : World) (cs : List Value) (hc : cs.length = 5) : (W.alloc (.cells zk.toArray 23)).there W.heap.size 0 cs.toArray.size := (Holds.new W 23 zk.toArray).there 0 _ (by rw [List.size_toArray, hc]; exact Nat.le_refl 5)
theorem keyOk_mk {p : Ots.Par} {kd h : Nat} (hpar : Ots.par (kd : Int) = some p) (h1 : 1 ≤ h) (h5 : h ≤ 5) {id seed : ByteArray} (hi : id.size = 16) (hs : seed.size = 32) {q : Nat} (hq : q ≤ 2 ^ h) : keyOk (kd : Int) (h : Int) id seed (q : Int) = true := by
  unfold keyOk
  rw [hpar, decide_eq_true (show (1 : Int) ≤ (h : Int) ∧ (h : Int) ≤ 5 from by omega), decide_eq_true hi, decide_eq_true hs, decide_eq_true (show (0 : Int) ≤ (q : Int) from by omega), decide_eq_true (show (q : Int) ≤ ((2 ^ (h : Int).toNat : Nat) : Int) from by rw [Int.toNat_natCast]; omega)]
  rfl
/-- A public key, a signature. -/
def hPubT (p : Ots.Par) (kd h : Nat) (id seed : ByteArray) : ByteArray := be 4 2 ++ pubT p kd h id seed
def lowPubT (p : Ots.Par) (kd h : Nat) (id seed : ByteArray) (u : Nat) : ByteArray := pubT p kd h (lowId id seed u) (lowSeed id seed u)
def hSigT (p : Ots.Par) (kd h : Nat) (id seed : ByteArray) (q : Nat) (msg : ByteArray) : ByteArray :=
  be 4 1 ++ sigT p kd h id seed (q / 2 ^ h) (lowPubT p kd h id seed (q / 2 ^ h)) ++ lowPubT p kd h id seed (q / 2 ^ h) ++ sigT p kd h (lowId id seed (q / 2 ^ h)) (lowSeed id seed (q / 2 ^ h)) (q % 2 ^ h) msg
theorem pubT_size (p : Ots.Par) (kd h : Nat) (id seed : ByteArray) (hi : id.size = 16) : (pubT p kd h id seed).size = 56 := by
  have e := (Lms.pub_parts p kd h id.data.toList seed.data.toList (by rw [data_length]; exact hi)).1
  rw [← data_length]
  exact e

set_option maxRecDepth 100000 in
set_option maxHeartbeats 600000 in
theorem hPublic_bad (o ht : Int) (id seed : ByteArray) (nx : Int) (hok : hOk o ht id seed nx = false) (w : World) : Calls Try.prog 29 #[.agg #[.int .i64 o, .int .i64 ht, .string id, .string seed, .int .i64 nx]] w fun e w' => e = .returned (.tuple #[.string ⟨#[]⟩, .int .i64 600]) ∧ Below w.heap.size w w' := by
  obtain ⟨kc, hkc⟩ : ∃ kc, keyC o ht id seed nx = kc := ⟨_, rfl⟩
  have hW0' := hid (show w.alloc (.cells #[.int .i64 o, .int .i64 ht, .string id, .string seed, .int .i64 nx] 53) = w.alloc (.cells kc.toArray 53) from by rw [← hkc]; rfl)
  obtain ⟨W0, hW0⟩ : ∃ W0, w.alloc (.cells kc.toArray 53) = W0 := ⟨_, rfl⟩
  have hK0 := hid (show Holds W0 w.heap.size 53 kc from by rw [← hW0]; exact Holds.new _ _ kc.toArray)
  have hB0 := hid (show Below w.heap.size w W0 from by rw [← hW0]; exact (Below.refl _ _).alloc (Nat.le_refl _) _)
  have hCk := hid (show (Try.prog.info? 53).map (·.size) = some kc.length from by rw [← hkc]; exact sizeHss)
  have hmy := hid (fun W => show Calls Try.prog 69 #[.agg kc.toArray] W fun e w' => e = .returned (.bool (hOk o ht id seed nx)) ∧ Below W.heap.size W w' from by rw [← hkc]; exact hMay_any o ht id seed nx W)
  rw [hok] at hmy
  rw [hW0] at hW0'
  clear hW0 hkc hok
  go_enter Try.func29, Try.ntmps29
  go_wp2_with (first
    | ((with_reducible refine at_slot (some 1) ?_); refine wpList_run rfl (.pointer (some ⟨w.heap.size, 0, none⟩)) (w.alloc (.cells #[.int .i64 o, .int .i64 ht, .string id, .string seed, .int .i64 nx] 53)) (by kernel_rfl) ?_; rw [hW0'.out])
    | ((with_reducible refine at_slot (some 6) ?_); refine wpList_load_mid rfl 53 (.tmp 1) rfl w.heap.size 0 rfl kc _ (by exact h_all hK0.out) Try.underlying53 rfl (by exact hCk.out) ?_)
    | fail)
  refine (hmy.out _).mono ?_
  rintro e W1 ⟨rfl, hb⟩
  have hB1 := hid (below_up hb hB0.out)
  clear hb
  go_wp2_with fail
  go_ret2
  exact ⟨rfl, hB1.out⟩

set_option maxRecDepth 100000 in
set_option maxHeartbeats 1000000 in
theorem hPublic_good (p : Ots.Par) (kd h q : Nat) (hpar : Ots.par (kd : Int) = some p) (h1 : 1 ≤ h) (h5 : h ≤ 5) (id seed : ByteArray) (hi16 : id.size = 16) (hs32 : seed.size = 32) (hq : q ≤ 2 ^ (2 * h)) (hok : hOk (kd : Int) (h : Int) id seed (q : Int) = true) (w : World) : Calls Try.prog 29 #[.agg #[.int .i64 (kd : Int), .int .i64 (h : Int), .string id, .string seed, .int .i64 (q : Int)]] w fun e w' => e = .returned (.tuple #[.string (hPubT p kd h id seed), .int .i64 0]) ∧ Below w.heap.size w w' := by
  obtain ⟨kc, hkc⟩ : ∃ kc, keyC (kd : Int) (h : Int) id seed (q : Int) = kc := ⟨_, rfl⟩
  have hW0' := hid (show w.alloc (.cells #[.int .i64 (kd : Int), .int .i64 (h : Int), .string id, .string seed, .int .i64 (q : Int)] 53) = w.alloc (.cells kc.toArray 53) from by rw [← hkc]; rfl)
  obtain ⟨W0, hW0⟩ : ∃ W0, w.alloc (.cells kc.toArray 53) = W0 := ⟨_, rfl⟩
  have hK0 := hid (show Holds W0 w.heap.size 53 kc from by rw [← hW0]; exact Holds.new _ _ kc.toArray)
  have hB0 := hid (show Below w.heap.size w W0 from by rw [← hW0]; exact (Below.refl _ _).alloc (Nat.le_refl _) _)
  have hCk := hid (show (Try.prog.info? 53).map (·.size) = some kc.length from by rw [← hkc]; exact sizeHss)
  have hmy := hid (fun W => show Calls Try.prog 69 #[.agg kc.toArray] W fun e w' => e = .returned (.bool (hOk (kd : Int) (h : Int) id seed (q : Int))) ∧ Below W.heap.size W w' from by rw [← hkc]; exact hMay_any (kd : Int) (h : Int) id seed (q : Int) W)
  rw [hok] at hmy
  rw [hW0] at hW0'
  have hq10 : 2 ^ (2 * h) ≤ 1024 := Nat.le_trans (Nat.pow_le_pow_right (by decide) (show 2 * h ≤ 10 by omega)) (by decide)
  obtain ⟨u, hu⟩ : ∃ u, q / 2 ^ h = u := ⟨_, rfl⟩
  have hule : u ≤ 2 ^ h := by
    rw [← hu]
    have e : 2 ^ (2 * h) = 2 ^ h * 2 ^ h := by rw [← Nat.pow_add]; congr 1; omega
    exact Nat.div_le_of_le_mul (by omega)
  obtain ⟨ka, hka⟩ : ∃ k, keyC (kd : Int) (h : Int) id seed (u : Int) = k := ⟨_, rfl⟩
  have hUp := hid (fun W => show Calls Try.prog 70 #[.agg kc.toArray] W fun e w' => e = .returned (.agg ka.toArray) ∧ Below W.heap.size W w' from by rw [← hkc, ← hka, ← hu]; exact hUpper_any kd h q h5 (by omega) id seed W)
  have hPu := hid (fun W => show Calls Try.prog 12 #[.agg ka.toArray] W fun e w' => e = .returned (.tuple #[.string (pubT p kd h id seed), .int .i64 0]) ∧ Below W.heap.size W w' from by rw [← hka]; exact lmsPublic_good p kd h hpar h1 h5 id seed hi16 hs32 (u : Int) (keyOk_mk hpar h1 h5 hi16 hs32 hule) W)
  have hU2 := hid (fun W => show Calls Try.prog 34 #[.int .i64 2] W fun e w' => e = .returned (.string (be 4 2)) ∧ Below W.heap.size W w' from U32_any 2 W)
  have hsz := pubT_size p kd h id seed hi16
  obtain ⟨pt, hpt⟩ : ∃ t, pubT p kd h id seed = t := ⟨_, rfl⟩
  have hans := hid (show be 4 2 ++ pt = hPubT p kd h id seed from by rw [← hpt]; rfl)
  rw [hpt] at hPu hsz
  obtain ⟨b2, hb2⟩ : ∃ b, be 4 2 = b := ⟨_, rfl⟩
  have sb2 : b2.size = 4 := by rw [← hb2, be_size]
  rw [hb2] at hU2 hans
  have z1 : b2.size + pt.size ≤ 9223372036854775807 := by omega
  clear hW0 hkc hok hu hka hq10 hule hpt hb2 sb2 hsz hpar hi16 hs32 hq h1 h5
  go_enter Try.func29, Try.ntmps29
  go_wp2_with (first
    | ((with_reducible refine at_slot (some 1) ?_); refine wpList_run rfl (.pointer (some ⟨w.heap.size, 0, none⟩)) (w.alloc (.cells #[.int .i64 (kd : Int), .int .i64 (h : Int), .string id, .string seed, .int .i64 (q : Int)] 53)) (by kernel_rfl) ?_; rw [hW0'.out])
    | ((with_reducible refine at_slot (some 6) ?_); refine wpList_load_mid rfl 53 (.tmp 1) rfl w.heap.size 0 rfl kc _ (by exact h_all hK0.out) Try.underlying53 rfl (by exact hCk.out) ?_)
    | fail)
  refine (hmy.out _).mono ?_
  rintro e W1 ⟨rfl, hb⟩
  have hB1 := hid (below_up hb hB0.out)
  have hK1 := hid (hK0.out.below hb hK0.out.lt)
  clear hb hK0 hB0
  go_wp2_with (first
    | ((with_reducible refine at_slot (some 10) ?_); refine wpList_load_mid rfl 53 (.tmp 1) rfl w.heap.size 0 rfl kc _ (by exact h_all hK1.out) Try.underlying53 rfl (by exact hCk.out) ?_)
    | fail)
  refine (hUp.out _).mono ?_
  rintro e W2 ⟨rfl, hb⟩
  have hK2 := hid (hK1.out.below hb hK1.out.lt)
  have hB2 := hid (below_up hb hB1.out)
  clear hb hK1 hB1
  try (rename_i hJJ; refine hJJ _ _ ?_; clear hJJ)
  go_wp2_with fail
  refine (hPu.out _).mono ?_
  rintro e W3 ⟨rfl, hb⟩
  have hK3 := hid (hK2.out.below hb hK2.out.lt)
  have hB3 := hid (below_up hb hB2.out)
  clear hb hK2 hB2
  go_wp2_with fail
  refine (hU2.out _).mono ?_
  rintro e W4 ⟨rfl, hb⟩
  have hK4 := hid (hK3.out.below hb hK3.out.lt)
  have hB4 := hid (below_up hb hB3.out)
  clear hb hK3 hB3
  go_wp2_with fail
  go_ret2
  exact ⟨by rw [hans.out]; rfl, hB4.out⟩

set_option maxRecDepth 100000 in
set_option maxHeartbeats 1000000 in
theorem hSign_spent (kd h : Nat) (h5 : h ≤ 5) (id seed : ByteArray) (q : Nat) (hok : hOk (kd : Int) (h : Int) id seed (q : Int) = true) (msg : ByteArray) (hm : msg.size ≤ 65536) (hsp : q = 2 ^ (2 * h)) (w : World) : Calls Try.prog 30 #[.agg #[.int .i64 (kd : Int), .int .i64 (h : Int), .string id, .string seed, .int .i64 (q : Int)], .string msg] w fun e w' => e = .returned (.tuple #[.string ⟨#[]⟩, .agg zk.toArray, .int .i64 601]) ∧ Below w.heap.size w w' := by
  obtain ⟨kc, hkc⟩ : ∃ kc, keyC (kd : Int) (h : Int) id seed (q : Int) = kc := ⟨_, rfl⟩
  have hA' := hid (show w.alloc (.cells #[.int .i64 (kd : Int), .int .i64 (h : Int), .string id, .string seed, .int .i64 (q : Int)] 53) = w.alloc (.cells kc.toArray 53) from by rw [← hkc]; rfl)
  obtain ⟨WA, hWA⟩ : ∃ WA, w.alloc (.cells kc.toArray 53) = WA := ⟨_, rfl⟩
  rw [hWA] at hA'
  have z1 : WA.heap.size = w.heap.size + 1 := by rw [← hWA]; simp
  obtain ⟨W0, hW0⟩ : ∃ W0, WA.alloc (.cells zk.toArray 53) = W0 := ⟨_, rfl⟩
  have hK0 := hid (show Holds W0 w.heap.size 53 kc from by rw [← hW0, ← hWA]; exact (Holds.new w 53 kc.toArray).alloc _)
  have hZ0 := hid (show Holds W0 (w.heap.size + 1) 53 zk from by rw [← hW0, ← z1]; exact Holds.new _ 53 zk.toArray)
  have hB0 := hid (show Below w.heap.size w W0 from by rw [← hW0, ← hWA]; exact ((Below.refl _ _).alloc (Nat.le_refl _) _).alloc (by simp) _)
  have hz := hid z1
  have hW0' := hid hW0
  have hsk := hid sizeHss
  have hsl := hid sizeKey
  have hCk := hid (show (Try.prog.info? 53).map (·.size) = some kc.length from by rw [← hkc]; exact sizeHss)
  have hmy := hid (fun W => show Calls Try.prog 69 #[.agg kc.toArray] W fun e w' => e = .returned (.bool (hOk (kd : Int) (h : Int) id seed (q : Int))) ∧ Below W.heap.size W w' from by rw [← hkc]; exact hMay_any (kd : Int) (h : Int) id seed (q : Int) W)
  rw [hok] at hmy
  clear hW0 hWA z1
  have hLf := hid (fun W => show Calls Try.prog 31 #[.agg kc.toArray] W fun e w' => e = .returned (.int .i64 0) ∧ Below W.heap.size W w' from by
    rw [← hkc]
    have hc := hLeft_good kd h q h5 (by omega) id seed hok W
    rw [show 2 ^ (2 * h) - q = 0 from by omega] at hc
    exact hc)
  clear hkc hok hsp
  have hmi : ¬ (65536 : Int) < (msg.size : Int) := by omega
  go_enter Try.func30, Try.ntmps30
  go_wp2_with (first
    | ((with_reducible refine at_slot (some 2) ?_); refine wpList_run rfl (.pointer (some ⟨w.heap.size, 0, none⟩)) (w.alloc (.cells #[.int .i64 (kd : Int), .int .i64 (h : Int), .string id, .string seed, .int .i64 (q : Int)] 53)) (by kernel_rfl) ?_; rw [hA'.out])
    | ((with_reducible refine at_slot (some 5) ?_); refine wpList_run rfl (.pointer (some ⟨WA.heap.size, 0, none⟩)) (WA.alloc (.cells zk.toArray 53)) (by kernel_rfl) ?_; rw [hW0'.out, hz.out])
    | ((with_reducible refine at_slot (some 14) ?_); refine wpList_load_mid rfl 53 (.tmp 2) rfl w.heap.size 0 rfl kc _ (by exact h_all hK0.out) Try.underlying53 rfl (by exact hCk.out) ?_)
    | fail)
  refine (hmy.out _).mono ?_
  rintro e W1 ⟨rfl, hb⟩
  have hB1 := hid (below_up hb hB0.out)
  have hK1 := hid (hK0.out.below hb hK0.out.lt)
  have hZ1 := hid (hZ0.out.below hb hZ0.out.lt)
  clear hb hK0 hB0 hZ0
  go_wp2_with (first
    | ((with_reducible refine at_slot (some 23) ?_); refine wpList_load_mid rfl 53 (.tmp 2) rfl w.heap.size 0 rfl kc _ (by exact h_all hK1.out) Try.underlying53 rfl (by exact hCk.out) ?_)
    | fail)
  refine (hLf.out _).mono ?_
  rintro e W2 ⟨rfl, hb⟩
  have hK2 := hid (hK1.out.below hb hK1.out.lt)
  have hZ2 := hid (hZ1.out.below hb hZ1.out.lt)
  have hB2 := hid (below_up hb hB1.out)
  clear hb hK1 hZ1 hB1
  go_wp2_with (first
    | ((with_reducible refine at_slot (some 26) ?_); refine wpList_run rfl (.agg zk.toArray) W2 (by kernel_rfl) ?_)
    | ((with_reducible refine at_slot none ?_); refine wpList_store_mid rfl 53 (.tmp 5) (.tmp 26) rfl (w.heap.size + 1) 0 zk.toArray rfl rfl (by exact hZ2.out.there 0 _ (by decide)) (by exact hsk.out) (by exact zk_one) ?_; generalize hW9 : World.setCells _ _ _ _ = W9; have hZ9 := hid (hZ2.out.over rfl hW9); have hB9 := hid (below_put hB2.out (by omega) hW9); clear hW9)
    | fail)
  exact bodyPost_ret (results_tct rfl _ _ (w.heap.size + 1) 53 _ (0, 0) _ _ _ rfl rfl hZ9.out rfl Try.underlying53 rfl (by exact hsk.out)) rfl ⟨rfl, hB9.out⟩

structure KeyL (cs : List Value) : Prop where
  len : cs.length = 5
  one : cs.toArray.all (·.oneCell') = true
  size : (Try.prog.info? 23).map (·.size) = some cs.toArray.size
  size' : (Try.prog.info? 23).map (·.size) = some cs.length
theorem keyL (o ht : Int) (id seed : ByteArray) (nx : Int) : KeyL (keyC o ht id seed nx) := ⟨rfl, keyC_one _ _ _ _ _, sizeKey, sizeKey⟩

set_option maxRecDepth 100000 in
set_option maxHeartbeats 4000000 in
theorem hSign_good (p : Ots.Par) (kd h q : Nat) (hpar : Ots.par (kd : Int) = some p) (h1 : 1 ≤ h) (h5 : h ≤ 5) (id seed : ByteArray) (hi16 : id.size = 16) (hs32 : seed.size = 32) (hq : q < 2 ^ (2 * h)) (hok : hOk (kd : Int) (h : Int) id seed (q : Int) = true) (msg : ByteArray) (hm : msg.size ≤ 65536) (w : World) : Calls Try.prog 30 #[.agg #[.int .i64 (kd : Int), .int .i64 (h : Int), .string id, .string seed, .int .i64 (q : Int)], .string msg] w fun e w' => e = .returned (.tuple #[.string (hSigT p kd h id seed q msg), .agg (keyC (kd : Int) (h : Int) id seed ((q + 1 : Nat) : Int)).toArray, .int .i64 0]) ∧ Below w.heap.size w w' := by
  obtain ⟨kc, hkc⟩ : ∃ kc, keyC (kd : Int) (h : Int) id seed (q : Int) = kc := ⟨_, rfl⟩
  have hA' := hid (show w.alloc (.cells #[.int .i64 (kd : Int), .int .i64 (h : Int), .string id, .string seed, .int .i64 (q : Int)] 53) = w.alloc (.cells kc.toArray 53) from by rw [← hkc]; rfl)
  obtain ⟨WA, hWA⟩ : ∃ WA, w.alloc (.cells kc.toArray 53) = WA := ⟨_, rfl⟩
  rw [hWA] at hA'
  have z1 : WA.heap.size = w.heap.size + 1 := by rw [← hWA]; simp
  obtain ⟨W0, hW0⟩ : ∃ W0, WA.alloc (.cells zk.toArray 53) = W0 := ⟨_, rfl⟩
  have hK0 := hid (show Holds W0 w.heap.size 53 kc from by rw [← hW0, ← hWA]; exact (Holds.new w 53 kc.toArray).alloc _)
  have hZ0 := hid (show Holds W0 (w.heap.size + 1) 53 zk from by rw [← hW0, ← z1]; exact Holds.new _ 53 zk.toArray)
  have hB0 := hid (show Below w.heap.size w W0 from by rw [← hW0, ← hWA]; exact ((Below.refl _ _).alloc (Nat.le_refl _) _).alloc (by simp) _)
  have hz := hid z1
  have hW0' := hid hW0
  have hsk := hid sizeHss
  have hsl := hid sizeKey
  have hCk := hid (show (Try.prog.info? 53).map (·.size) = some kc.length from by rw [← hkc]; exact sizeHss)
  have hmy := hid (fun W => show Calls Try.prog 69 #[.agg kc.toArray] W fun e w' => e = .returned (.bool (hOk (kd : Int) (h : Int) id seed (q : Int))) ∧ Below W.heap.size W w' from by rw [← hkc]; exact hMay_any (kd : Int) (h : Int) id seed (q : Int) W)
  rw [hok] at hmy
  clear hW0 hWA z1
  have hq10 : 2 ^ (2 * h) ≤ 1024 := Nat.le_trans (Nat.pow_le_pow_right (by decide) (show 2 * h ≤ 10 by omega)) (by decide)
  have hp1 : 0 < 2 ^ h := Nat.pow_pos (by decide)
  have hmi : ¬ (65536 : Int) < (msg.size : Int) := by omega
  obtain ⟨u, hu⟩ : ∃ u, q / 2 ^ h = u := ⟨_, rfl⟩
  obtain ⟨r, hr⟩ : ∃ r, q % 2 ^ h = r := ⟨_, rfl⟩
  have hult : u < 2 ^ h := by
    rw [← hu]
    have e : 2 ^ (2 * h) = 2 ^ h * 2 ^ h := by rw [← Nat.pow_add]; congr 1; omega
    exact Nat.div_lt_of_lt_mul (by omega)
  have hrlt : r < 2 ^ h := by rw [← hr]; exact Nat.mod_lt _ hp1
  obtain ⟨lf, hlf⟩ : ∃ n : Nat, 2 ^ (2 * h) - q = n := ⟨_, rfl⟩
  have hLf := hid (fun W => show Calls Try.prog 31 #[.agg kc.toArray] W fun e w' => e = .returned (.int .i64 (lf : Int)) ∧ Below W.heap.size W w' from by
    rw [← hkc]
    have hc := hLeft_good kd h q h5 (by omega) id seed hok W
    rw [hlf] at hc
    exact hc)
  have hle : ((lf : Int) == 0) = false := by rw [beq_eq_false_iff_ne]; omega
  obtain ⟨ka, hka⟩ : ∃ k, keyC (kd : Int) (h : Int) id seed (u : Int) = k := ⟨_, rfl⟩
  have hUp := hid (fun W => show Calls Try.prog 70 #[.agg kc.toArray] W fun e w' => e = .returned (.agg ka.toArray) ∧ Below W.heap.size W w' from by rw [← hkc, ← hka, ← hu]; exact hUpper_any kd h q h5 (by omega) id seed W)
  have li16 := lowId_size id seed u
  have ls32 := lowSeed_size id seed u
  obtain ⟨kl, hkl⟩ : ∃ k, keyC (kd : Int) (h : Int) (lowId id seed u) (lowSeed id seed u) (r : Int) = k := ⟨_, rfl⟩
  have hLo := hid (fun W => show Calls Try.prog 71 #[.agg kc.toArray] W fun e w' => e = .returned (.tuple #[.agg kl.toArray, .int .i64 0]) ∧ Below W.heap.size W w' from by rw [← hkc, ← hkl, ← hu, ← hr]; exact hLower_any kd h q h5 (by omega) id seed hi16 hs32 W)
  obtain ⟨kn, hkn⟩ : ∃ k, keyC (kd : Int) (h : Int) (lowId id seed u) (lowSeed id seed u) ((r + 1 : Nat) : Int) = k := ⟨_, rfl⟩
  obtain ⟨sl, hsl2⟩ : ∃ s, sigT p kd h (lowId id seed u) (lowSeed id seed u) r msg = s := ⟨_, rfl⟩
  have hSl := hid (fun W => show Calls Try.prog 14 #[.agg kl.toArray, .string msg] W fun e w' => e = .returned (.tuple #[.string sl, .agg kn.toArray, .int .i64 0]) ∧ Below W.heap.size W w' from by
    rw [← hkl, ← hkn, ← hsl2]
    exact lmsSign_good p kd h r hpar h1 h5 _ _ li16 ls32 hrlt (keyOk_mk hpar h1 h5 li16 ls32 (by omega)) msg hm W)
  obtain ⟨pl, hpl⟩ : ∃ s, pubT p kd h (lowId id seed u) (lowSeed id seed u) = s := ⟨_, rfl⟩
  have hPb := hid (fun W => show Calls Try.prog 72 #[.agg kl.toArray, .string msg, .string sl] W fun e w' => e = .returned (.tuple #[.string pl, .int .i64 0]) ∧ Below W.heap.size W w' from by
    rw [← hkl, ← hpl]
    exact hPublicBy_any p kd h r hpar h1 h5 _ _ li16 hrlt msg hm sl hsl2 W)
  have hpls : pl.size = 56 := by rw [← hpl]; exact pubT_size p kd h _ _ li16
  obtain ⟨km, hkm⟩ : ∃ k, keyC (kd : Int) (h : Int) id seed ((u + 1 : Nat) : Int) = k := ⟨_, rfl⟩
  obtain ⟨su, hsu⟩ : ∃ s, sigT p kd h id seed u pl = s := ⟨_, rfl⟩
  have hSu := hid (fun W => show Calls Try.prog 14 #[.agg ka.toArray, .string pl] W fun e w' => e = .returned (.tuple #[.string su, .agg km.toArray, .int .i64 0]) ∧ Below W.heap.size W w' from by
    rw [← hka, ← hkm, ← hsu]
    exact lmsSign_good p kd h u hpar h1 h5 id seed hi16 hs32 hult (keyOk_mk hpar h1 h5 hi16 hs32 (by omega)) pl (by omega) W)
  have hU1 := hid (fun W => show Calls Try.prog 34 #[.int .i64 1] W fun e w' => e = .returned (.string (be 4 1)) ∧ Below W.heap.size W w' from U32_any 1 W)
  obtain ⟨b1, hb1⟩ : ∃ b, be 4 1 = b := ⟨_, rfl⟩
  have sb1 : b1.size = 4 := by rw [← hb1, be_size]
  rw [hb1] at hU1
  have hp67 := par_p hpar
  have ssu : su.size ≤ 4000 := by rw [← hsu, sig_size]; omega
  have ssl : sl.size ≤ 4000 := by rw [← hsl2, sig_size]; omega
  have y1 : b1.size + su.size ≤ 9223372036854775807 := by omega
  have y2 : b1.size + su.size + pl.size ≤ 9223372036854775807 := by omega
  have y3 : b1.size + su.size + pl.size + sl.size ≤ 9223372036854775807 := by omega
  have hans := hid (show b1 ++ su ++ pl ++ sl = hSigT p kd h id seed q msg from by
    unfold hSigT lowPubT
    rw [hu, hr, hb1, hpl, hsu, hsl2])
  have hCl := hid (show KeyL kl from by rw [← hkl]; exact keyL _ _ _ _ _)
  have hCn := hid (show KeyL kn from by rw [← hkn]; exact keyL _ _ _ _ _)
  have hCm := hid (show KeyL km from by rw [← hkm]; exact keyL _ _ _ _ _)
  have k4 := hid (show kc[4]? = some (.int .i64 (q : Int)) from by rw [← hkc]; rfl)
  have hqw := IntWalk.i64_in ((q : Int) + 1) (by omega)
  obtain ⟨kc2, hkc2⟩ : ∃ k, kc.set 4 (.int .i64 ((q : Int) + 1)) = k := ⟨_, rfl⟩
  have hk2' := hid (show keyC (kd : Int) (h : Int) id seed ((q + 1 : Nat) : Int) = kc2 from by rw [← hkc2, ← hkc]; rfl)
  have hk2l : kc2.length = 5 := by rw [← hkc2, ← hkc]; rfl
  have hk2o := hid (show kc2.toArray.all (·.oneCell') = true from by rw [← hk2'.out]; exact keyC_one _ _ _ _ _)
  have hk2s := hid (show (Try.prog.info? 53).map (·.size) = some kc2.toArray.size ∧ (Try.prog.info? 53).map (·.size) = some kc2.length from by rw [← hk2'.out]; exact ⟨sizeHss, sizeHss⟩)
  have hkc2' := hid hkc2
  clear hkc hok hu hr hult hrlt hlf hka hkl hkn hsl2 hpl hpls hkm hsu hb1 sb1 hp67 ssu ssl hkc2 hpar hq10 hp1 hi16 hs32 li16 ls32 hq hm h1 h5
  go_enter Try.func30, Try.ntmps30
  go_wp2_with (first
    | ((with_reducible refine at_slot (some 2) ?_); refine wpList_run rfl (.pointer (some ⟨w.heap.size, 0, none⟩)) (w.alloc (.cells #[.int .i64 (kd : Int), .int .i64 (h : Int), .string id, .string seed, .int .i64 (q : Int)] 53)) (by kernel_rfl) ?_; rw [hA'.out])
    | ((with_reducible refine at_slot (some 5) ?_); refine wpList_run rfl (.pointer (some ⟨WA.heap.size, 0, none⟩)) (WA.alloc (.cells zk.toArray 53)) (by kernel_rfl) ?_; rw [hW0'.out, hz.out])
    | ((with_reducible refine at_slot (some 14) ?_); refine wpList_load_mid rfl 53 (.tmp 2) rfl w.heap.size 0 rfl kc _ (by exact h_all hK0.out) Try.underlying53 rfl (by exact hCk.out) ?_)
    | fail)
  refine (hmy.out _).mono ?_
  rintro e W1 ⟨rfl, hb⟩
  have hB1 := hid (below_up hb hB0.out)
  have hK1 := hid (hK0.out.below hb hK0.out.lt)
  have hZ1 := hid (hZ0.out.below hb hZ0.out.lt)
  clear hb hK0 hB0 hZ0
  go_wp2_with (first
    | ((with_reducible refine at_slot (some 23) ?_); refine wpList_load_mid rfl 53 (.tmp 2) rfl w.heap.size 0 rfl kc _ (by exact h_all hK1.out) Try.underlying53 rfl (by exact hCk.out) ?_)
    | fail)
  refine (hLf.out _).mono ?_
  rintro e W2 ⟨rfl, hb⟩
  have hK2 := hid (hK1.out.below hb hK1.out.lt)
  have hZ2 := hid (hZ1.out.below hb hZ1.out.lt)
  have hB2 := hid (below_up hb hB1.out)
  clear hb hK1 hZ1 hB1
  go_wp2_with (first
    | ((with_reducible refine at_slot (some 28) ?_); refine wpList_load_mid rfl 53 (.tmp 2) rfl w.heap.size 0 rfl kc _ (by exact h_all hK2.out) Try.underlying53 rfl (by exact hCk.out) ?_)
    | fail)
  refine (hLo.out _).mono ?_
  rintro e W3 ⟨rfl, hb⟩
  have hK3 := hid (hK2.out.below hb hK2.out.lt)
  have hZ3 := hid (hZ2.out.below hb hZ2.out.lt)
  have hB3 := hid (below_up hb hB2.out)
  clear hb hK2 hZ2 hB2
  try (rename_i hJJ; refine hJJ _ _ ?_; clear hJJ)
  go_wp2_with (first
    | ((with_reducible refine at_slot (some 7) ?_); refine wpList_run rfl (.pointer (some ⟨W3.heap.size, 0, none⟩)) (W3.alloc (.cells zk.toArray 23)) (by kernel_rfl) ?_)
    | ((with_reducible refine at_slot none ?_); refine wpList_store_mid rfl 23 (.tmp 7) (.tmp 30) rfl W3.heap.size 0 kl.toArray rfl rfl (by exact hss_there W3 _ hCl.out.len) (by exact hCl.out.size) (by exact hCl.out.one) ?_; generalize hW : World.setCells _ _ _ _ = W4; obtain ⟨hN, hb⟩ := hss_new hCl.out.len hW; have hK4 := hid (hK3.out.below hb hK3.out.lt); have hZ4 := hid (hZ3.out.below hb hZ3.out.lt); have hB4 := hid (below_up hb hB3.out); have hL4 := hid hN; clear hb hK3 hZ3 hB3 hN; clear hW)
    | ((with_reducible refine at_slot (some 36) ?_); refine wpList_load_mid rfl 23 (.tmp 7) rfl W3.heap.size 0 rfl kl _ (by exact h_all hL4.out) Try.underlying23 rfl (by exact hCl.out.size') ?_)
    | fail)
  refine (hSl.out _).mono ?_
  rintro e W5 ⟨rfl, hb⟩
  have hK5 := hid (hK4.out.below hb hK4.out.lt)
  have hZ5 := hid (hZ4.out.below hb hZ4.out.lt)
  have hB5 := hid (below_up hb hB4.out)
  have hL5 := hid (hL4.out.below hb hL4.out.lt)
  clear hb hK4 hZ4 hB4 hL4
  try (rename_i hJJ; refine hJJ _ _ ?_; clear hJJ)
  go_wp2_with (first
    | ((with_reducible refine at_slot (some 10) ?_); refine wpList_run rfl (.pointer (some ⟨W5.heap.size, 0, none⟩)) (W5.alloc (.cells zk.toArray 23)) (by kernel_rfl) ?_)
    | ((with_reducible refine at_slot none ?_); refine wpList_store_mid rfl 23 (.tmp 10) (.tmp 40) rfl W5.heap.size 0 kn.toArray rfl rfl (by exact hss_there W5 _ hCn.out.len) (by exact hCn.out.size) (by exact hCn.out.one) ?_; generalize hW : World.setCells _ _ _ _ = W6; obtain ⟨hN, hb⟩ := hss_new hCn.out.len hW; have hK6 := hid (hK5.out.below hb hK5.out.lt); have hZ6 := hid (hZ5.out.below hb hZ5.out.lt); have hB6 := hid (below_up hb hB5.out); have hL6 := hid (hL5.out.below hb hL5.out.lt); have hN6 := hid hN; clear hb hK5 hZ5 hB5 hL5 hN; clear hW)
    | ((with_reducible refine at_slot (some 46) ?_); refine wpList_load_mid rfl 23 (.tmp 7) rfl W3.heap.size 0 rfl kl _ (by exact h_all hL6.out) Try.underlying23 rfl (by exact hCl.out.size') ?_)
    | fail)
  refine (hPb.out _).mono ?_
  rintro e W7 ⟨rfl, hb⟩
  have hK7 := hid (hK6.out.below hb hK6.out.lt)
  have hZ7 := hid (hZ6.out.below hb hZ6.out.lt)
  have hB7 := hid (below_up hb hB6.out)
  have hL7 := hid (hL6.out.below hb hL6.out.lt)
  have hN7 := hid (hN6.out.below hb hN6.out.lt)
  clear hb hK6 hZ6 hB6 hL6 hN6
  try (rename_i hJJ; refine hJJ _ _ ?_; clear hJJ)
  go_wp2_with (first
    | ((with_reducible refine at_slot (some 56) ?_); refine wpList_load_mid rfl 53 (.tmp 2) rfl w.heap.size 0 rfl kc _ (by exact h_all hK7.out) Try.underlying53 rfl (by exact hCk.out) ?_)
    | fail)
  refine (hUp.out _).mono ?_
  rintro e W8 ⟨rfl, hb⟩
  have hK8 := hid (hK7.out.below hb hK7.out.lt)
  have hZ8 := hid (hZ7.out.below hb hZ7.out.lt)
  have hB8 := hid (below_up hb hB7.out)
  have hL8 := hid (hL7.out.below hb hL7.out.lt)
  have hN8 := hid (hN7.out.below hb hN7.out.lt)
  clear hb hK7 hZ7 hB7 hL7 hN7
  try (rename_i hJJ; refine hJJ _ _ ?_; clear hJJ)
  go_wp2_with fail
  refine (hSu.out _).mono ?_
  rintro e W9 ⟨rfl, hb⟩
  have hK9 := hid (hK8.out.below hb hK8.out.lt)
  have hZ9 := hid (hZ8.out.below hb hZ8.out.lt)
  have hB9 := hid (below_up hb hB8.out)
  have hL9 := hid (hL8.out.below hb hL8.out.lt)
  have hN9 := hid (hN8.out.below hb hN8.out.lt)
  clear hb hK8 hZ8 hB8 hL8 hN8
  try (rename_i hJJ; refine hJJ _ _ ?_; clear hJJ)
  go_wp2_with (first
    | ((with_reducible refine at_slot (some 13) ?_); refine wpList_run rfl (.pointer (some ⟨W9.heap.size, 0, none⟩)) (W9.alloc (.cells zk.toArray 23)) (by kernel_rfl) ?_)
    | ((with_reducible refine at_slot none ?_); refine wpList_store_mid rfl 23 (.tmp 13) (.tmp 61) rfl W9.heap.size 0 km.toArray rfl rfl (by exact hss_there W9 _ hCm.out.len) (by exact hCm.out.size) (by exact hCm.out.one) ?_; generalize hW : World.setCells _ _ _ _ = W10; obtain ⟨hN, hb⟩ := hss_new hCm.out.len hW; have hK10 := hid (hK9.out.below hb hK9.out.lt); have hZ10 := hid (hZ9.out.below hb hZ9.out.lt); have hB10 := hid (below_up hb hB9.out); have hL10 := hid (hL9.out.below hb hL9.out.lt); have hN10 := hid (hN9.out.below hb hN9.out.lt); have hM10 := hid hN; clear hb hK9 hZ9 hB9 hL9 hN9 hN; have c4 := hK10.out.c 4 _ k4.out; have f4 := hK10.out.frozen 4; clear hW)
    | fail)
  obtain ⟨V7, hV7⟩ : ∃ V7, W10.setCell ⟨w.heap.size, 4, none⟩ (.int .i64 ((q : Int) + 1)) = V7 := ⟨_, rfl⟩
  have hX7 : W10.setCells w.heap.size 4 [.int .i64 ((q : Int) + 1)] = V7 := hV7
  have hK60 := hid (show Holds V7 w.heap.size 53 kc2 from by rw [← hkc2'.out, ← hV7]; exact hK10.out.set 4 _)
  have hZ60 := hid (holds_far hZ10.out (by omega) hX7)
  have hB60 := hid (below_put hB10.out (Nat.le_refl _) hX7)
  rw [hV7]
  clear hV7 hX7 c4 f4
  have hb : Below V7.heap.size V7 V7.drew := (Below.refl _ _).drew
  have hK61 := hid (hK60.out.below hb hK60.out.lt)
  have hZ61 := hid (hZ60.out.below hb hZ60.out.lt)
  have hB61 := hid (below_up hb hB60.out)
  clear hb hK60 hZ60 hB60
  refine wp_region_held_drew (S := fun V => Holds V w.heap.size 53 kc2) (by kernel_rfl) (by exact hK61.out) (fun hHeld => ?_)
  generalize V7.drew = W61 at *
  refine tkx 1 (.string su) hHeld ?_; simp only [ly, Act.put]
  refine tkx 3 (.string pl) hHeld ?_; simp only [ly, Act.put]
  refine tkx 5 (.string sl) hHeld ?_; simp only [ly, Act.put]
  refine tkx 7 (.agg kc2.toArray) hHeld ?_ (hy := yieldsIf_load_mid (by kernel_rfl) _ _ rfl _ _ rfl _ _ (fun V hS => h_all hS) Try.underlying53 rfl (by exact hk2s.out.2)); simp only [ly, Act.put]
  refine wpAnyH_ready (rs := [0]) (by kernel_rfl) (by simp) (AllReadyH.cons rfl (fun K hK => ?_) AllReadyH.nil)
  have hK' := hid hK
  clear hK
  rw [if_pos (by kernel_rfl)]
  simp only [ly1, ly3]
  go_simp
  refine (hU1.out _).mono ?_
  rintro e W62 ⟨rfl, hb⟩
  have hK62 := hid (hK61.out.below hb hK61.out.lt)
  have hZ62 := hid (hZ61.out.below hb hZ61.out.lt)
  have hB62 := hid (below_up hb hB61.out)
  clear hb hK61 hZ61 hB61
  refine hK'.out _ _ (by exact hK62.out) (fun hHeld => ?_)
  clear hK' K
  refine tkx 2 (.string (b1 ++ su)) hHeld ?_; simp only [ly, Act.put]
  refine tkx 4 (.string (b1 ++ su ++ pl)) hHeld ?_; simp only [ly, Act.put]
  refine tkx 6 (.string (b1 ++ su ++ pl ++ sl)) hHeld ?_; simp only [ly, Act.put]
  refine tkx 8 (.string (b1 ++ su ++ pl ++ sl)) hHeld ?_; simp only [ly, Act.put]
  refine wpAnyH_ready (rs := [9]) (by kernel_rfl) (by simp) (AllReadyH.cons rfl (fun K hK => ?_) AllReadyH.nil)
  have hK' := hid hK
  clear hK
  rw [if_pos (by kernel_rfl)]
  simp only [ly1, ly2, ly3]
  refine wp_store_mid _ _ _ rfl (w.heap.size + 1) 0 kc2.toArray rfl rfl (by exact hZ62.out.there 0 _ (by rw [List.size_toArray, hk2l]; decide)) (by exact hk2s.out.1) (by exact hk2o.out) ?_
  generalize hXx : World.setCells _ _ _ _ = W63
  have hZ63 := hid (hZ62.out.over (by rw [hk2l]; rfl) hXx)
  have hK63 := hid (holds_far hK62.out (by omega) hXx)
  have hB63 := hid (below_put hB62.out (by omega) hXx)
  clear hXx
  refine hK'.out _ _ (by exact hK63.out) (fun hHeld => ?_)
  clear hK' K
  refine tkx 10 (.int .i64 0) hHeld ?_; simp only [ly, Act.put]
  refine wpAnyH_done (by kernel_rfl) ?_ _
  go_wp2_with fail
  rw [show keyC (kd : Int) (h : Int) id seed ((q : Int) + 1) = kc2 from hk2'.out, hans.out]
  exact bodyPost_ret (results_tct rfl _ _ (w.heap.size + 1) 53 _ (0, 0) _ _ _ rfl rfl hZ63.out rfl Try.underlying53 rfl (by exact hk2s.out.1)) rfl ⟨rfl, hB63.out⟩


end Go.Proofs.Ytmfajekfipfjpaa
