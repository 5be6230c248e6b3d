/- Layer 6, the program's side: Public, Sign. -/
import Derived.Test.YtmfajekfipfjpaaGreatHsC
set_option maxRecDepth 100000
namespace Go.Proofs.YtmfajekfipfjpaaGreat
open Go.RowKit
open Go.Lib (strCells strCells_length strCells_oneCell)
attribute [local irreducible] Sha.compress Sha.blocks Sha.sha Sha.pad

theorem hss_new {W W7 : World} {cs : List Value} (hc : cs.length = 5) (h : (W.alloc (.cells zk.toArray 39)).setCells W.heap.size 0 cs = W7) : Holds W7 W.heap.size 39 cs ∧ Below W.heap.size W W7 := by
  have hH := Holds.new W 39 zk.toArray
  have hb : Below W.heap.size W (W.alloc (.cells zk.toArray 39)) := (Below.refl _ _).alloc (Nat.le_refl _) _
  exact ⟨Holds.over hH (by rw [hc]; rfl) h, below_put hb (Nat.le_refl _) h⟩
theorem hss_there (W : World) (cs : List Value) (hc : cs.length = 5) : (W.alloc (.cells zk.toArray 39)).there W.heap.size 0 cs.toArray.size := (Holds.new W 39 zk.toArray).there 0 _ (by rw [List.size_toArray, hc]; exact Nat.le_refl 5)
theorem hOk_parts {o ht : Int} {id seed : ByteArray} {nx : Int} (h : hOk o ht id seed nx = true) : ∃ (p : Ots.Par) (kd k q : Nat), o = (kd : Int) ∧ Ots.par (kd : Int) = some p ∧ ht = (k : Int) ∧ 1 ≤ k ∧ k ≤ 5 ∧ id.size = 16 ∧ seed.size = 32 ∧ nx = (q : Int) ∧ q ≤ 2 ^ (2 * k) := by
  unfold hOk at h
  rw [Bool.and_eq_true, Bool.and_eq_true, Bool.and_eq_true, Bool.and_eq_true, Bool.and_eq_true] at h
  obtain ⟨h0, h1, h2, h3, h4, h5⟩ := h
  have h1 := of_decide_eq_true h1
  have h2 := of_decide_eq_true h2
  have h3 := of_decide_eq_true h3
  have h4 := of_decide_eq_true h4
  have h5 := of_decide_eq_true h5
  obtain ⟨p, hp⟩ := Option.isSome_iff_exists.1 h0
  obtain ⟨kd, rfl⟩ : ∃ kd : Nat, o = (kd : Int) := by
    rcases Ots.par_kind hp with ⟨e, _⟩ | ⟨e, _⟩
    · exact ⟨3, e⟩
    · exact ⟨4, e⟩
  obtain ⟨k, rfl⟩ : ∃ k : Nat, ht = (k : Int) := ⟨ht.toNat, by omega⟩
  obtain ⟨q, rfl⟩ : ∃ q : Nat, nx = (q : Int) := ⟨nx.toNat, by omega⟩
  rw [Int.toNat_natCast] at h5
  exact ⟨p, kd, k, q, rfl, hp, rfl, by omega, by omega, h2, h3, rfl, by omega⟩
theorem keyOk_mk {p : Ots.Par} {kd h : Nat} (hpar : Ots.par (kd : Int) = some p) (h1 : 1 ≤ h) (h5 : h ≤ 5) {id seed : ByteArray} (hi : id.size = 16) (hs : seed.size = 32) {q : Nat} (hq : q ≤ 2 ^ h) : keyOk (kd : Int) (h : Int) id seed (q : Int) = true := by
  unfold keyOk
  rw [hpar, decide_eq_true (show (1 : Int) ≤ (h : Int) ∧ (h : Int) ≤ 5 from by omega), decide_eq_true hi, decide_eq_true hs, decide_eq_true (show (0 : Int) ≤ (q : Int) from by omega), decide_eq_true (show (q : Int) ≤ ((2 ^ (h : Int).toNat : Nat) : Int) from by rw [Int.toNat_natCast]; omega)]
  rfl
/-- A public key, a signature. -/
def hPubT (p : Ots.Par) (kd h : Nat) (id seed : ByteArray) : ByteArray := be 4 2 ++ pubT p kd h id seed
def lowPubT (p : Ots.Par) (kd h : Nat) (id seed : ByteArray) (u : Nat) : ByteArray := pubT p kd h (lowId id seed u) (lowSeed id seed u)
def hSigT (p : Ots.Par) (kd h : Nat) (id seed : ByteArray) (q : Nat) (msg : ByteArray) : ByteArray :=
  be 4 1 ++ sigT p kd h id seed (q / 2 ^ h) (lowPubT p kd h id seed (q / 2 ^ h)) ++ lowPubT p kd h id seed (q / 2 ^ h) ++ sigT p kd h (lowId id seed (q / 2 ^ h)) (lowSeed id seed (q / 2 ^ h)) (q % 2 ^ h) msg
theorem pubT_size (p : Ots.Par) (kd h : Nat) (id seed : ByteArray) (hi : id.size = 16) : (pubT p kd h id seed).size = 56 := by
  have e := (Lms.pub_parts p kd h id.data.toList seed.data.toList (by rw [data_length]; exact hi)).1
  rw [← data_length]
  exact e

set_option maxHeartbeats 600000 in
theorem hPublic_bad (o ht : Int) (id seed : ByteArray) (nx : Int) (hok : hOk o ht id seed nx = false) (w : World) : Calls Tryz.prog 4 #[.agg #[.int .i64 o, .int .i64 ht, .string id, .string seed, .int .i64 nx]] w fun e w' => e = .returned (.tuple #[.string ⟨#[]⟩, .int .i64 600]) ∧ Below w.heap.size w w' := by
  obtain ⟨kc, hkc⟩ : ∃ kc, keyC o ht id seed nx = kc := ⟨_, rfl⟩
  have hW0' := hid (show w.alloc (.cells #[.int .i64 o, .int .i64 ht, .string id, .string seed, .int .i64 nx] 23) = w.alloc (.cells kc.toArray 23) from by rw [← hkc]; rfl)
  obtain ⟨W0, hW0⟩ : ∃ W0, w.alloc (.cells kc.toArray 23) = W0 := ⟨_, rfl⟩
  have hK0 := hid (show Holds W0 w.heap.size 23 kc from by rw [← hW0]; exact Holds.new _ _ kc.toArray)
  have hB0 := hid (show Below w.heap.size w W0 from by rw [← hW0]; exact (Below.refl _ _).alloc (Nat.le_refl _) _)
  have hCk := hid (show (Tryz.prog.info? 23).map (·.size) = some kc.length from by rw [← hkc]; exact sizeHss)
  have hmy := hid (fun W => show Calls Tryz.prog 12 #[.agg kc.toArray] W fun e w' => e = .returned (.bool (hOk o ht id seed nx)) ∧ Below W.heap.size W w' from by rw [← hkc]; exact hMay_any o ht id seed nx W)
  rw [hok] at hmy
  rw [hW0] at hW0'
  clear hW0 hkc hok
  go_enter Tryz.func4, Tryz.ntmps4
  go_wp2_with (first
    | ((with_reducible refine at_slot (some 1) ?_); refine wpList_run rfl (.pointer (some ⟨w.heap.size, 0, none⟩)) (w.alloc (.cells #[.int .i64 o, .int .i64 ht, .string id, .string seed, .int .i64 nx] 23)) (by kernel_rfl) ?_; rw [hW0'.out])
    | ((with_reducible refine at_slot (some 6) ?_); refine wpList_load_mid rfl 23 (.tmp 1) rfl w.heap.size 0 rfl kc _ (by exact h_all hK0.out) Tryz.underlying23 rfl (by exact hCk.out) ?_)
    | fail)
  refine (hmy.out _).mono ?_
  rintro e W1 ⟨rfl, hb⟩
  have hB1 := zup hb hB0
  clear hb
  go_wp2_with fail
  go_ret2
  exact ⟨rfl, hB1.out⟩

set_option maxHeartbeats 1000000 in
theorem hPublic_good (p : Ots.Par) (kd h q : Nat) (hpar : Ots.par (kd : Int) = some p) (h1 : 1 ≤ h) (h5 : h ≤ 5) (id seed : ByteArray) (hi16 : id.size = 16) (hs32 : seed.size = 32) (hq : q ≤ 2 ^ (2 * h)) (hok : hOk (kd : Int) (h : Int) id seed (q : Int) = true) (w : World) : Calls Tryz.prog 4 #[.agg #[.int .i64 (kd : Int), .int .i64 (h : Int), .string id, .string seed, .int .i64 (q : Int)]] w fun e w' => e = .returned (.tuple #[.string (hPubT p kd h id seed), .int .i64 0]) ∧ Below w.heap.size w w' := by
  obtain ⟨kc, hkc⟩ : ∃ kc, keyC (kd : Int) (h : Int) id seed (q : Int) = kc := ⟨_, rfl⟩
  have hW0' := hid (show w.alloc (.cells #[.int .i64 (kd : Int), .int .i64 (h : Int), .string id, .string seed, .int .i64 (q : Int)] 23) = w.alloc (.cells kc.toArray 23) from by rw [← hkc]; rfl)
  obtain ⟨W0, hW0⟩ : ∃ W0, w.alloc (.cells kc.toArray 23) = W0 := ⟨_, rfl⟩
  have hK0 := hid (show Holds W0 w.heap.size 23 kc from by rw [← hW0]; exact Holds.new _ _ kc.toArray)
  have hB0 := hid (show Below w.heap.size w W0 from by rw [← hW0]; exact (Below.refl _ _).alloc (Nat.le_refl _) _)
  have hCk := hid (show (Tryz.prog.info? 23).map (·.size) = some kc.length from by rw [← hkc]; exact sizeHss)
  have hmy := hid (fun W => show Calls Tryz.prog 12 #[.agg kc.toArray] W fun e w' => e = .returned (.bool (hOk (kd : Int) (h : Int) id seed (q : Int))) ∧ Below W.heap.size W w' from by rw [← hkc]; exact hMay_any (kd : Int) (h : Int) id seed (q : Int) W)
  rw [hok] at hmy
  rw [hW0] at hW0'
  have hq10 : 2 ^ (2 * h) ≤ 1024 := Nat.le_trans (Nat.pow_le_pow_right (by decide) (show 2 * h ≤ 10 by omega)) (by decide)
  obtain ⟨u, hu⟩ : ∃ u, q / 2 ^ h = u := ⟨_, rfl⟩
  have hule : u ≤ 2 ^ h := by
    rw [← hu]
    have e : 2 ^ (2 * h) = 2 ^ h * 2 ^ h := by rw [← Nat.pow_add]; congr 1; omega
    exact Nat.div_le_of_le_mul (by omega)
  obtain ⟨ka, hka⟩ : ∃ k, keyC (kd : Int) (h : Int) id seed (u : Int) = k := ⟨_, rfl⟩
  have hUp := hid (fun W => show Calls Tryz.prog 14 #[.agg kc.toArray] W fun e w' => e = .returned (.agg ka.toArray) ∧ Below W.heap.size W w' from by rw [← hkc, ← hka, ← hu]; exact hUpper_any kd h q h5 (by omega) id seed W)
  have hPu := hid (fun W => show Calls Tryz.prog 13 #[.agg ka.toArray] W fun e w' => e = .returned (.tuple #[.string (pubT p kd h id seed), .int .i64 0]) ∧ Below W.heap.size W w' from by rw [← hka]; exact lmsPublic_good p kd h hpar h1 h5 id seed hi16 hs32 (u : Int) (keyOk_mk hpar h1 h5 hi16 hs32 hule) W)
  have hU2 := hid (fun W => show Calls Tryz.prog 15 #[.int .i64 2] W fun e w' => e = .returned (.string (be 4 2)) ∧ Below W.heap.size W w' from U32_any 2 W)
  have hsz := pubT_size p kd h id seed hi16
  obtain ⟨pt, hpt⟩ : ∃ t, pubT p kd h id seed = t := ⟨_, rfl⟩
  have hans := hid (show be 4 2 ++ pt = hPubT p kd h id seed from by rw [← hpt]; rfl)
  rw [hpt] at hPu hsz
  obtain ⟨b2, hb2⟩ : ∃ b, be 4 2 = b := ⟨_, rfl⟩
  have sb2 : b2.size = 4 := by rw [← hb2, be_size]
  rw [hb2] at hU2 hans
  have z1 : b2.size + pt.size ≤ 9223372036854775807 := by omega
  clear hW0 hkc hok hu hka hq10 hule hpt hb2 sb2 hsz hpar hi16 hs32 hq h1 h5
  go_enter Tryz.func4, Tryz.ntmps4
  go_wp2_with (first
    | ((with_reducible refine at_slot (some 1) ?_); refine wpList_run rfl (.pointer (some ⟨w.heap.size, 0, none⟩)) (w.alloc (.cells #[.int .i64 (kd : Int), .int .i64 (h : Int), .string id, .string seed, .int .i64 (q : Int)] 23)) (by kernel_rfl) ?_; rw [hW0'.out])
    | ((with_reducible refine at_slot (some 6) ?_); refine wpList_load_mid rfl 23 (.tmp 1) rfl w.heap.size 0 rfl kc _ (by exact h_all hK0.out) Tryz.underlying23 rfl (by exact hCk.out) ?_)
    | fail)
  refine (hmy.out _).mono ?_
  rintro e W1 ⟨rfl, hb⟩
  have hB1 := zup hb hB0
  have hK1 := zon hb hK0
  clear hb hK0 hB0
  go_wp2_with (first
    | ((with_reducible refine at_slot (some 10) ?_); refine wpList_load_mid rfl 23 (.tmp 1) rfl w.heap.size 0 rfl kc _ (by exact h_all hK1.out) Tryz.underlying23 rfl (by exact hCk.out) ?_)
    | fail)
  refine (hUp.out _).mono ?_
  rintro e W2 ⟨rfl, hb⟩
  have hK2 := zon hb hK1
  have hB2 := zup hb hB1
  clear hb hK1 hB1
  try (rename_i hJJ; refine hJJ _ _ ?_; clear hJJ)
  go_wp2_with fail
  refine (hPu.out _).mono ?_
  rintro e W3 ⟨rfl, hb⟩
  have hK3 := zon hb hK2
  have hB3 := zup hb hB2
  clear hb hK2 hB2
  go_wp2_with fail
  refine (hU2.out _).mono ?_
  rintro e W4 ⟨rfl, hb⟩
  have hK4 := zon hb hK3
  have hB4 := zup hb hB3
  clear hb hK3 hB3
  go_wp2_with fail
  go_ret2
  exact ⟨by rw [hans.out]; rfl, hB4.out⟩

set_option maxHeartbeats 1000000 in
theorem hSign_bad1 (o ht : Int) (id seed : ByteArray) (nx : Int) (hok : hOk o ht id seed nx = false) (msg : ByteArray) (w : World) : Calls Tryz.prog 6 #[.agg #[.int .i64 o, .int .i64 ht, .string id, .string seed, .int .i64 nx], .string msg] w fun e w' => e = .returned (.tuple #[.string ⟨#[]⟩, .agg zk.toArray, .int .i64 600]) ∧ Below w.heap.size w w' := by
  obtain ⟨kc, hkc⟩ : ∃ kc, keyC o ht id seed nx = kc := ⟨_, rfl⟩
  have hA' := hid (show w.alloc (.cells #[.int .i64 o, .int .i64 ht, .string id, .string seed, .int .i64 nx] 23) = w.alloc (.cells kc.toArray 23) from by rw [← hkc]; rfl)
  obtain ⟨WA, hWA⟩ : ∃ WA, w.alloc (.cells kc.toArray 23) = WA := ⟨_, rfl⟩
  rw [hWA] at hA'
  have z1 : WA.heap.size = w.heap.size + 1 := by rw [← hWA]; simp
  obtain ⟨W0, hW0⟩ : ∃ W0, WA.alloc (.cells zk.toArray 23) = W0 := ⟨_, rfl⟩
  have hK0 := hid (show Holds W0 w.heap.size 23 kc from by rw [← hW0, ← hWA]; exact (Holds.new w 23 kc.toArray).alloc _)
  have hZ0 := hid (show Holds W0 (w.heap.size + 1) 23 zk from by rw [← hW0, ← z1]; exact Holds.new _ 23 zk.toArray)
  have hB0 := hid (show Below w.heap.size w W0 from by rw [← hW0, ← hWA]; exact ((Below.refl _ _).alloc (Nat.le_refl _) _).alloc (by simp) _)
  have hz := hid z1
  have hW0' := hid hW0
  have hsk := hid sizeHss
  have hsl := hid sizeKey
  have hCk := hid (show (Tryz.prog.info? 23).map (·.size) = some kc.length from by rw [← hkc]; exact sizeHss)
  have hmy := hid (fun W => show Calls Tryz.prog 12 #[.agg kc.toArray] W fun e w' => e = .returned (.bool (hOk o ht id seed nx)) ∧ Below W.heap.size W w' from by rw [← hkc]; exact hMay_any o ht id seed nx W)
  rw [hok] at hmy
  clear hW0 hWA z1
  clear hkc hok
  go_enter Tryz.func6, Tryz.ntmps6
  go_wp2_with (first
    | ((with_reducible refine at_slot (some 2) ?_); refine wpList_run rfl (.pointer (some ⟨w.heap.size, 0, none⟩)) (w.alloc (.cells #[.int .i64 o, .int .i64 ht, .string id, .string seed, .int .i64 nx] 23)) (by kernel_rfl) ?_; rw [hA'.out])
    | ((with_reducible refine at_slot (some 5) ?_); refine wpList_run rfl (.pointer (some ⟨WA.heap.size, 0, none⟩)) (WA.alloc (.cells zk.toArray 23)) (by kernel_rfl) ?_; rw [hW0'.out, hz.out])
    | ((with_reducible refine at_slot (some 14) ?_); refine wpList_load_mid rfl 23 (.tmp 2) rfl w.heap.size 0 rfl kc _ (by exact h_all hK0.out) Tryz.underlying23 rfl (by exact hCk.out) ?_)
    | fail)
  refine (hmy.out _).mono ?_
  rintro e W1 ⟨rfl, hb⟩
  have hB1 := zup hb hB0
  have hK1 := zon hb hK0
  have hZ1 := zon hb hZ0
  clear hb hK0 hB0 hZ0
  go_wp2_with (first
    | ((with_reducible refine at_slot (some 22) ?_); refine wpList_run rfl (.agg zk.toArray) W1 (by kernel_rfl) ?_)
    | ((with_reducible refine at_slot none ?_); refine wpList_store_mid rfl 23 (.tmp 5) (.tmp 22) rfl (w.heap.size + 1) 0 zk.toArray rfl rfl (by exact hZ1.out.there 0 _ (by decide)) (by exact hsk.out) (by exact zk_one) ?_; generalize hW9 : World.setCells _ _ _ _ = W9; have hZ9 := hid (hZ1.out.over rfl hW9); have hB9 := hid (below_put hB1.out (by omega) hW9); clear hW9)
    | fail)
  exact bodyPost_ret (results_tct rfl _ _ (w.heap.size + 1) 23 _ (0, 0) _ _ _ rfl rfl hZ9.out rfl Tryz.underlying23 rfl (by exact hsk.out)) rfl ⟨rfl, hB9.out⟩

set_option maxHeartbeats 1000000 in
theorem hSign_bad2 (o ht : Int) (id seed : ByteArray) (nx : Int) (hok : hOk o ht id seed nx = true) (msg : ByteArray) (hm : 65536 < msg.size) (w : World) : Calls Tryz.prog 6 #[.agg #[.int .i64 o, .int .i64 ht, .string id, .string seed, .int .i64 nx], .string msg] w fun e w' => e = .returned (.tuple #[.string ⟨#[]⟩, .agg zk.toArray, .int .i64 600]) ∧ Below w.heap.size w w' := by
  obtain ⟨kc, hkc⟩ : ∃ kc, keyC o ht id seed nx = kc := ⟨_, rfl⟩
  have hA' := hid (show w.alloc (.cells #[.int .i64 o, .int .i64 ht, .string id, .string seed, .int .i64 nx] 23) = w.alloc (.cells kc.toArray 23) from by rw [← hkc]; rfl)
  obtain ⟨WA, hWA⟩ : ∃ WA, w.alloc (.cells kc.toArray 23) = WA := ⟨_, rfl⟩
  rw [hWA] at hA'
  have z1 : WA.heap.size = w.heap.size + 1 := by rw [← hWA]; simp
  obtain ⟨W0, hW0⟩ : ∃ W0, WA.alloc (.cells zk.toArray 23) = W0 := ⟨_, rfl⟩
  have hK0 := hid (show Holds W0 w.heap.size 23 kc from by rw [← hW0, ← hWA]; exact (Holds.new w 23 kc.toArray).alloc _)
  have hZ0 := hid (show Holds W0 (w.heap.size + 1) 23 zk from by rw [← hW0, ← z1]; exact Holds.new _ 23 zk.toArray)
  have hB0 := hid (show Below w.heap.size w W0 from by rw [← hW0, ← hWA]; exact ((Below.refl _ _).alloc (Nat.le_refl _) _).alloc (by simp) _)
  have hz := hid z1
  have hW0' := hid hW0
  have hsk := hid sizeHss
  have hsl := hid sizeKey
  have hCk := hid (show (Tryz.prog.info? 23).map (·.size) = some kc.length from by rw [← hkc]; exact sizeHss)
  have hmy := hid (fun W => show Calls Tryz.prog 12 #[.agg kc.toArray] W fun e w' => e = .returned (.bool (hOk o ht id seed nx)) ∧ Below W.heap.size W w' from by rw [← hkc]; exact hMay_any o ht id seed nx W)
  rw [hok] at hmy
  clear hW0 hWA z1
  clear hkc hok
  have hmi : (65536 : Int) < (msg.size : Int) := by omega
  go_enter Tryz.func6, Tryz.ntmps6
  go_wp2_with (first
    | ((with_reducible refine at_slot (some 2) ?_); refine wpList_run rfl (.pointer (some ⟨w.heap.size, 0, none⟩)) (w.alloc (.cells #[.int .i64 o, .int .i64 ht, .string id, .string seed, .int .i64 nx] 23)) (by kernel_rfl) ?_; rw [hA'.out])
    | ((with_reducible refine at_slot (some 5) ?_); refine wpList_run rfl (.pointer (some ⟨WA.heap.size, 0, none⟩)) (WA.alloc (.cells zk.toArray 23)) (by kernel_rfl) ?_; rw [hW0'.out, hz.out])
    | ((with_reducible refine at_slot (some 14) ?_); refine wpList_load_mid rfl 23 (.tmp 2) rfl w.heap.size 0 rfl kc _ (by exact h_all hK0.out) Tryz.underlying23 rfl (by exact hCk.out) ?_)
    | fail)
  refine (hmy.out _).mono ?_
  rintro e W1 ⟨rfl, hb⟩
  have hB1 := zup hb hB0
  have hK1 := zon hb hK0
  have hZ1 := zon hb hZ0
  clear hb hK0 hB0 hZ0
  go_wp2_with (first
    | ((with_reducible refine at_slot (some 22) ?_); refine wpList_run rfl (.agg zk.toArray) W1 (by kernel_rfl) ?_)
    | ((with_reducible refine at_slot none ?_); refine wpList_store_mid rfl 23 (.tmp 5) (.tmp 22) rfl (w.heap.size + 1) 0 zk.toArray rfl rfl (by exact hZ1.out.there 0 _ (by decide)) (by exact hsk.out) (by exact zk_one) ?_; generalize hW9 : World.setCells _ _ _ _ = W9; have hZ9 := hid (hZ1.out.over rfl hW9); have hB9 := hid (below_put hB1.out (by omega) hW9); clear hW9)
    | fail)
  exact bodyPost_ret (results_tct rfl _ _ (w.heap.size + 1) 23 _ (0, 0) _ _ _ rfl rfl hZ9.out rfl Tryz.underlying23 rfl (by exact hsk.out)) rfl ⟨rfl, hB9.out⟩

set_option maxHeartbeats 1000000 in
theorem hSign_spent (kd h : Nat) (h5 : h ≤ 5) (id seed : ByteArray) (q : Nat) (hok : hOk (kd : Int) (h : Int) id seed (q : Int) = true) (msg : ByteArray) (hm : msg.size ≤ 65536) (hsp : q = 2 ^ (2 * h)) (w : World) : Calls Tryz.prog 6 #[.agg #[.int .i64 (kd : Int), .int .i64 (h : Int), .string id, .string seed, .int .i64 (q : Int)], .string msg] w fun e w' => e = .returned (.tuple #[.string ⟨#[]⟩, .agg zk.toArray, .int .i64 601]) ∧ Below w.heap.size w w' := by
  obtain ⟨kc, hkc⟩ : ∃ kc, keyC (kd : Int) (h : Int) id seed (q : Int) = kc := ⟨_, rfl⟩
  have hA' := hid (show w.alloc (.cells #[.int .i64 (kd : Int), .int .i64 (h : Int), .string id, .string seed, .int .i64 (q : Int)] 23) = w.alloc (.cells kc.toArray 23) from by rw [← hkc]; rfl)
  obtain ⟨WA, hWA⟩ : ∃ WA, w.alloc (.cells kc.toArray 23) = WA := ⟨_, rfl⟩
  rw [hWA] at hA'
  have z1 : WA.heap.size = w.heap.size + 1 := by rw [← hWA]; simp
  obtain ⟨W0, hW0⟩ : ∃ W0, WA.alloc (.cells zk.toArray 23) = W0 := ⟨_, rfl⟩
  have hK0 := hid (show Holds W0 w.heap.size 23 kc from by rw [← hW0, ← hWA]; exact (Holds.new w 23 kc.toArray).alloc _)
  have hZ0 := hid (show Holds W0 (w.heap.size + 1) 23 zk from by rw [← hW0, ← z1]; exact Holds.new _ 23 zk.toArray)
  have hB0 := hid (show Below w.heap.size w W0 from by rw [← hW0, ← hWA]; exact ((Below.refl _ _).alloc (Nat.le_refl _) _).alloc (by simp) _)
  have hz := hid z1
  have hW0' := hid hW0
  have hsk := hid sizeHss
  have hsl := hid sizeKey
  have hCk := hid (show (Tryz.prog.info? 23).map (·.size) = some kc.length from by rw [← hkc]; exact sizeHss)
  have hmy := hid (fun W => show Calls Tryz.prog 12 #[.agg kc.toArray] W fun e w' => e = .returned (.bool (hOk (kd : Int) (h : Int) id seed (q : Int))) ∧ Below W.heap.size W w' from by rw [← hkc]; exact hMay_any (kd : Int) (h : Int) id seed (q : Int) W)
  rw [hok] at hmy
  clear hW0 hWA z1
  have hLf := hid (fun W => show Calls Tryz.prog 9 #[.agg kc.toArray] W fun e w' => e = .returned (.int .i64 0) ∧ Below W.heap.size W w' from by
    rw [← hkc]
    have hc := hLeft_good kd h q h5 (by omega) id seed hok W
    rw [show 2 ^ (2 * h) - q = 0 from by omega] at hc
    exact hc)
  clear hkc hok hsp
  have hmi : ¬ (65536 : Int) < (msg.size : Int) := by omega
  go_enter Tryz.func6, Tryz.ntmps6
  go_wp2_with (first
    | ((with_reducible refine at_slot (some 2) ?_); refine wpList_run rfl (.pointer (some ⟨w.heap.size, 0, none⟩)) (w.alloc (.cells #[.int .i64 (kd : Int), .int .i64 (h : Int), .string id, .string seed, .int .i64 (q : Int)] 23)) (by kernel_rfl) ?_; rw [hA'.out])
    | ((with_reducible refine at_slot (some 5) ?_); refine wpList_run rfl (.pointer (some ⟨WA.heap.size, 0, none⟩)) (WA.alloc (.cells zk.toArray 23)) (by kernel_rfl) ?_; rw [hW0'.out, hz.out])
    | ((with_reducible refine at_slot (some 14) ?_); refine wpList_load_mid rfl 23 (.tmp 2) rfl w.heap.size 0 rfl kc _ (by exact h_all hK0.out) Tryz.underlying23 rfl (by exact hCk.out) ?_)
    | fail)
  refine (hmy.out _).mono ?_
  rintro e W1 ⟨rfl, hb⟩
  have hB1 := zup hb hB0
  have hK1 := zon hb hK0
  have hZ1 := zon hb hZ0
  clear hb hK0 hB0 hZ0
  go_wp2_with (first
    | ((with_reducible refine at_slot (some 23) ?_); refine wpList_load_mid rfl 23 (.tmp 2) rfl w.heap.size 0 rfl kc _ (by exact h_all hK1.out) Tryz.underlying23 rfl (by exact hCk.out) ?_)
    | fail)
  refine (hLf.out _).mono ?_
  rintro e W2 ⟨rfl, hb⟩
  have hK2 := zon hb hK1
  have hZ2 := zon hb hZ1
  have hB2 := zup hb hB1
  clear hb hK1 hZ1 hB1
  go_wp2_with (first
    | ((with_reducible refine at_slot (some 26) ?_); refine wpList_run rfl (.agg zk.toArray) W2 (by kernel_rfl) ?_)
    | ((with_reducible refine at_slot none ?_); refine wpList_store_mid rfl 23 (.tmp 5) (.tmp 26) rfl (w.heap.size + 1) 0 zk.toArray rfl rfl (by exact hZ2.out.there 0 _ (by decide)) (by exact hsk.out) (by exact zk_one) ?_; generalize hW9 : World.setCells _ _ _ _ = W9; have hZ9 := hid (hZ2.out.over rfl hW9); have hB9 := hid (below_put hB2.out (by omega) hW9); clear hW9)
    | fail)
  exact bodyPost_ret (results_tct rfl _ _ (w.heap.size + 1) 23 _ (0, 0) _ _ _ rfl rfl hZ9.out rfl Tryz.underlying23 rfl (by exact hsk.out)) rfl ⟨rfl, hB9.out⟩

structure KeyL (cs : List Value) : Prop where
  len : cs.length = 5
  one : cs.toArray.all (·.oneCell') = true
  size : (Tryz.prog.info? 39).map (·.size) = some cs.toArray.size
  size' : (Tryz.prog.info? 39).map (·.size) = some cs.length
theorem keyL (o ht : Int) (id seed : ByteArray) (nx : Int) : KeyL (keyC o ht id seed nx) := ⟨rfl, keyC_one _ _ _ _ _, sizeKey, sizeKey⟩

set_option maxHeartbeats 4000000 in
theorem hSign_good (p : Ots.Par) (kd h q : Nat) (hpar : Ots.par (kd : Int) = some p) (h1 : 1 ≤ h) (h5 : h ≤ 5) (id seed : ByteArray) (hi16 : id.size = 16) (hs32 : seed.size = 32) (hq : q < 2 ^ (2 * h)) (hok : hOk (kd : Int) (h : Int) id seed (q : Int) = true) (msg : ByteArray) (hm : msg.size ≤ 65536) (w : World) : Calls Tryz.prog 6 #[.agg #[.int .i64 (kd : Int), .int .i64 (h : Int), .string id, .string seed, .int .i64 (q : Int)], .string msg] w fun e w' => e = .returned (.tuple #[.string (hSigT p kd h id seed q msg), .agg (keyC (kd : Int) (h : Int) id seed ((q + 1 : Nat) : Int)).toArray, .int .i64 0]) ∧ Below w.heap.size w w' := by
  obtain ⟨kc, hkc⟩ : ∃ kc, keyC (kd : Int) (h : Int) id seed (q : Int) = kc := ⟨_, rfl⟩
  have hA' := hid (show w.alloc (.cells #[.int .i64 (kd : Int), .int .i64 (h : Int), .string id, .string seed, .int .i64 (q : Int)] 23) = w.alloc (.cells kc.toArray 23) from by rw [← hkc]; rfl)
  obtain ⟨WA, hWA⟩ : ∃ WA, w.alloc (.cells kc.toArray 23) = WA := ⟨_, rfl⟩
  rw [hWA] at hA'
  have z1 : WA.heap.size = w.heap.size + 1 := by rw [← hWA]; simp
  obtain ⟨W0, hW0⟩ : ∃ W0, WA.alloc (.cells zk.toArray 23) = W0 := ⟨_, rfl⟩
  have hK0 := hid (show Holds W0 w.heap.size 23 kc from by rw [← hW0, ← hWA]; exact (Holds.new w 23 kc.toArray).alloc _)
  have hZ0 := hid (show Holds W0 (w.heap.size + 1) 23 zk from by rw [← hW0, ← z1]; exact Holds.new _ 23 zk.toArray)
  have hB0 := hid (show Below w.heap.size w W0 from by rw [← hW0, ← hWA]; exact ((Below.refl _ _).alloc (Nat.le_refl _) _).alloc (by simp) _)
  have hz := hid z1
  have hW0' := hid hW0
  have hsk := hid sizeHss
  have hsl := hid sizeKey
  have hCk := hid (show (Tryz.prog.info? 23).map (·.size) = some kc.length from by rw [← hkc]; exact sizeHss)
  have hmy := hid (fun W => show Calls Tryz.prog 12 #[.agg kc.toArray] W fun e w' => e = .returned (.bool (hOk (kd : Int) (h : Int) id seed (q : Int))) ∧ Below W.heap.size W w' from by rw [← hkc]; exact hMay_any (kd : Int) (h : Int) id seed (q : Int) W)
  rw [hok] at hmy
  clear hW0 hWA z1
  have hq10 : 2 ^ (2 * h) ≤ 1024 := Nat.le_trans (Nat.pow_le_pow_right (by decide) (show 2 * h ≤ 10 by omega)) (by decide)
  have hp1 : 0 < 2 ^ h := Nat.pow_pos (by decide)
  have hmi : ¬ (65536 : Int) < (msg.size : Int) := by omega
  obtain ⟨u, hu⟩ : ∃ u, q / 2 ^ h = u := ⟨_, rfl⟩
  obtain ⟨r, hr⟩ : ∃ r, q % 2 ^ h = r := ⟨_, rfl⟩
  have hult : u < 2 ^ h := by
    rw [← hu]
    have e : 2 ^ (2 * h) = 2 ^ h * 2 ^ h := by rw [← Nat.pow_add]; congr 1; omega
    exact Nat.div_lt_of_lt_mul (by omega)
  have hrlt : r < 2 ^ h := by rw [← hr]; exact Nat.mod_lt _ hp1
  obtain ⟨lf, hlf⟩ : ∃ n : Nat, 2 ^ (2 * h) - q = n := ⟨_, rfl⟩
  have hLf := hid (fun W => show Calls Tryz.prog 9 #[.agg kc.toArray] W fun e w' => e = .returned (.int .i64 (lf : Int)) ∧ Below W.heap.size W w' from by
    rw [← hkc]
    have hc := hLeft_good kd h q h5 (by omega) id seed hok W
    rw [hlf] at hc
    exact hc)
  have hle : ((lf : Int) == 0) = false := by rw [beq_eq_false_iff_ne]; omega
  obtain ⟨ka, hka⟩ : ∃ k, keyC (kd : Int) (h : Int) id seed (u : Int) = k := ⟨_, rfl⟩
  have hUp := hid (fun W => show Calls Tryz.prog 14 #[.agg kc.toArray] W fun e w' => e = .returned (.agg ka.toArray) ∧ Below W.heap.size W w' from by rw [← hkc, ← hka, ← hu]; exact hUpper_any kd h q h5 (by omega) id seed W)
  have li16 := lowId_size id seed u
  have ls32 := lowSeed_size id seed u
  obtain ⟨kl, hkl⟩ : ∃ k, keyC (kd : Int) (h : Int) (lowId id seed u) (lowSeed id seed u) (r : Int) = k := ⟨_, rfl⟩
  have hLo := hid (fun W => show Calls Tryz.prog 20 #[.agg kc.toArray] W fun e w' => e = .returned (.tuple #[.agg kl.toArray, .int .i64 0]) ∧ Below W.heap.size W w' from by rw [← hkc, ← hkl, ← hu, ← hr]; exact hLower_any kd h q h5 (by omega) id seed hi16 hs32 W)
  obtain ⟨kn, hkn⟩ : ∃ k, keyC (kd : Int) (h : Int) (lowId id seed u) (lowSeed id seed u) ((r + 1 : Nat) : Int) = k := ⟨_, rfl⟩
  obtain ⟨sl, hsl2⟩ : ∃ s, sigT p kd h (lowId id seed u) (lowSeed id seed u) r msg = s := ⟨_, rfl⟩
  have hSl := hid (fun W => show Calls Tryz.prog 21 #[.agg kl.toArray, .string msg] W fun e w' => e = .returned (.tuple #[.string sl, .agg kn.toArray, .int .i64 0]) ∧ Below W.heap.size W w' from by
    rw [← hkl, ← hkn, ← hsl2]
    exact lmsSign_good p kd h r hpar h1 h5 _ _ li16 ls32 hrlt (keyOk_mk hpar h1 h5 li16 ls32 (by omega)) msg hm W)
  obtain ⟨pl, hpl⟩ : ∃ s, pubT p kd h (lowId id seed u) (lowSeed id seed u) = s := ⟨_, rfl⟩
  have hPb := hid (fun W => show Calls Tryz.prog 22 #[.agg kl.toArray, .string msg, .string sl] W fun e w' => e = .returned (.tuple #[.string pl, .int .i64 0]) ∧ Below W.heap.size W w' from by
    rw [← hkl, ← hpl]
    exact hPublicBy_any p kd h r hpar h1 h5 _ _ li16 hrlt msg hm sl hsl2 W)
  have hpls : pl.size = 56 := by rw [← hpl]; exact pubT_size p kd h _ _ li16
  obtain ⟨km, hkm⟩ : ∃ k, keyC (kd : Int) (h : Int) id seed ((u + 1 : Nat) : Int) = k := ⟨_, rfl⟩
  obtain ⟨su, hsu⟩ : ∃ s, sigT p kd h id seed u pl = s := ⟨_, rfl⟩
  have hSu := hid (fun W => show Calls Tryz.prog 21 #[.agg ka.toArray, .string pl] W fun e w' => e = .returned (.tuple #[.string su, .agg km.toArray, .int .i64 0]) ∧ Below W.heap.size W w' from by
    rw [← hka, ← hkm, ← hsu]
    exact lmsSign_good p kd h u hpar h1 h5 id seed hi16 hs32 hult (keyOk_mk hpar h1 h5 hi16 hs32 (by omega)) pl (by omega) W)
  have hU1 := hid (fun W => show Calls Tryz.prog 15 #[.int .i64 1] W fun e w' => e = .returned (.string (be 4 1)) ∧ Below W.heap.size W w' from U32_any 1 W)
  obtain ⟨b1, hb1⟩ : ∃ b, be 4 1 = b := ⟨_, rfl⟩
  have sb1 : b1.size = 4 := by rw [← hb1, be_size]
  rw [hb1] at hU1
  have hp67 := par_p hpar
  have ssu : su.size ≤ 4000 := by rw [← hsu, sig_size]; omega
  have ssl : sl.size ≤ 4000 := by rw [← hsl2, sig_size]; omega
  have y1 : b1.size + su.size ≤ 9223372036854775807 := by omega
  have y2 : b1.size + su.size + pl.size ≤ 9223372036854775807 := by omega
  have y3 : b1.size + su.size + pl.size + sl.size ≤ 9223372036854775807 := by omega
  have hans := hid (show b1 ++ su ++ pl ++ sl = hSigT p kd h id seed q msg from by
    unfold hSigT lowPubT
    rw [hu, hr, hb1, hpl, hsu, hsl2])
  have hCl := hid (show KeyL kl from by rw [← hkl]; exact keyL _ _ _ _ _)
  have hCn := hid (show KeyL kn from by rw [← hkn]; exact keyL _ _ _ _ _)
  have hCm := hid (show KeyL km from by rw [← hkm]; exact keyL _ _ _ _ _)
  have k4 := hid (show kc[4]? = some (.int .i64 (q : Int)) from by rw [← hkc]; rfl)
  have hqw := IntWalk.i64_in ((q : Int) + 1) (by omega)
  obtain ⟨kc2, hkc2⟩ : ∃ k, kc.set 4 (.int .i64 ((q : Int) + 1)) = k := ⟨_, rfl⟩
  have hk2' := hid (show keyC (kd : Int) (h : Int) id seed ((q + 1 : Nat) : Int) = kc2 from by rw [← hkc2, ← hkc]; rfl)
  have hk2l : kc2.length = 5 := by rw [← hkc2, ← hkc]; rfl
  have hk2o := hid (show kc2.toArray.all (·.oneCell') = true from by rw [← hk2'.out]; exact keyC_one _ _ _ _ _)
  have hk2s := hid (show (Tryz.prog.info? 23).map (·.size) = some kc2.toArray.size ∧ (Tryz.prog.info? 23).map (·.size) = some kc2.length from by rw [← hk2'.out]; exact ⟨sizeHss, sizeHss⟩)
  have hkc2' := hid hkc2
  clear hkc hok hu hr hult hrlt hlf hka hkl hkn hsl2 hpl hpls hkm hsu hb1 sb1 hp67 ssu ssl hkc2 hpar hq10 hp1 hi16 hs32 li16 ls32 hq hm h1 h5
  go_enter Tryz.func6, Tryz.ntmps6
  go_wp2_with (first
    | ((with_reducible refine at_slot (some 2) ?_); refine wpList_run rfl (.pointer (some ⟨w.heap.size, 0, none⟩)) (w.alloc (.cells #[.int .i64 (kd : Int), .int .i64 (h : Int), .string id, .string seed, .int .i64 (q : Int)] 23)) (by kernel_rfl) ?_; rw [hA'.out])
    | ((with_reducible refine at_slot (some 5) ?_); refine wpList_run rfl (.pointer (some ⟨WA.heap.size, 0, none⟩)) (WA.alloc (.cells zk.toArray 23)) (by kernel_rfl) ?_; rw [hW0'.out, hz.out])
    | ((with_reducible refine at_slot (some 14) ?_); refine wpList_load_mid rfl 23 (.tmp 2) rfl w.heap.size 0 rfl kc _ (by exact h_all hK0.out) Tryz.underlying23 rfl (by exact hCk.out) ?_)
    | fail)
  refine (hmy.out _).mono ?_
  rintro e W1 ⟨rfl, hb⟩
  have hB1 := zup hb hB0
  have hK1 := zon hb hK0
  have hZ1 := zon hb hZ0
  clear hb hK0 hB0 hZ0
  go_wp2_with (first
    | ((with_reducible refine at_slot (some 23) ?_); refine wpList_load_mid rfl 23 (.tmp 2) rfl w.heap.size 0 rfl kc _ (by exact h_all hK1.out) Tryz.underlying23 rfl (by exact hCk.out) ?_)
    | fail)
  refine (hLf.out _).mono ?_
  rintro e W2 ⟨rfl, hb⟩
  have hK2 := zon hb hK1
  have hZ2 := zon hb hZ1
  have hB2 := zup hb hB1
  clear hb hK1 hZ1 hB1
  go_wp2_with (first
    | ((with_reducible refine at_slot (some 28) ?_); refine wpList_load_mid rfl 23 (.tmp 2) rfl w.heap.size 0 rfl kc _ (by exact h_all hK2.out) Tryz.underlying23 rfl (by exact hCk.out) ?_)
    | fail)
  refine (hLo.out _).mono ?_
  rintro e W3 ⟨rfl, hb⟩
  have hK3 := zon hb hK2
  have hZ3 := zon hb hZ2
  have hB3 := zup hb hB2
  clear hb hK2 hZ2 hB2
  try (rename_i hJJ; refine hJJ _ _ ?_; clear hJJ)
  go_wp2_with (first
    | ((with_reducible refine at_slot (some 7) ?_); refine wpList_run rfl (.pointer (some ⟨W3.heap.size, 0, none⟩)) (W3.alloc (.cells zk.toArray 39)) (by kernel_rfl) ?_)
    | ((with_reducible refine at_slot none ?_); refine wpList_store_mid rfl 39 (.tmp 7) (.tmp 30) rfl W3.heap.size 0 kl.toArray rfl rfl (by exact hss_there W3 _ hCl.out.len) (by exact hCl.out.size) (by exact hCl.out.one) ?_; generalize hW : World.setCells _ _ _ _ = W4; obtain ⟨hN, hb⟩ := hss_new hCl.out.len hW; have hK4 := zon hb hK3; have hZ4 := zon hb hZ3; have hB4 := zup hb hB3; have hL4 := hid hN; clear hb hK3 hZ3 hB3 hN; clear hW)
    | ((with_reducible refine at_slot (some 36) ?_); refine wpList_load_mid rfl 39 (.tmp 7) rfl W3.heap.size 0 rfl kl _ (by exact h_all hL4.out) Tryz.underlying39 rfl (by exact hCl.out.size') ?_)
    | fail)
  refine (hSl.out _).mono ?_
  rintro e W5 ⟨rfl, hb⟩
  have hK5 := zon hb hK4
  have hZ5 := zon hb hZ4
  have hB5 := zup hb hB4
  have hL5 := zon hb hL4
  clear hb hK4 hZ4 hB4 hL4
  try (rename_i hJJ; refine hJJ _ _ ?_; clear hJJ)
  go_wp2_with (first
    | ((with_reducible refine at_slot (some 10) ?_); refine wpList_run rfl (.pointer (some ⟨W5.heap.size, 0, none⟩)) (W5.alloc (.cells zk.toArray 39)) (by kernel_rfl) ?_)
    | ((with_reducible refine at_slot none ?_); refine wpList_store_mid rfl 39 (.tmp 10) (.tmp 40) rfl W5.heap.size 0 kn.toArray rfl rfl (by exact hss_there W5 _ hCn.out.len) (by exact hCn.out.size) (by exact hCn.out.one) ?_; generalize hW : World.setCells _ _ _ _ = W6; obtain ⟨hN, hb⟩ := hss_new hCn.out.len hW; have hK6 := zon hb hK5; have hZ6 := zon hb hZ5; have hB6 := zup hb hB5; have hL6 := zon hb hL5; have hN6 := hid hN; clear hb hK5 hZ5 hB5 hL5 hN; clear hW)
    | ((with_reducible refine at_slot (some 46) ?_); refine wpList_load_mid rfl 39 (.tmp 7) rfl W3.heap.size 0 rfl kl _ (by exact h_all hL6.out) Tryz.underlying39 rfl (by exact hCl.out.size') ?_)
    | fail)
  refine (hPb.out _).mono ?_
  rintro e W7 ⟨rfl, hb⟩
  have hK7 := zon hb hK6
  have hZ7 := zon hb hZ6
  have hB7 := zup hb hB6
  have hL7 := zon hb hL6
  have hN7 := zon hb hN6
  clear hb hK6 hZ6 hB6 hL6 hN6
  try (rename_i hJJ; refine hJJ _ _ ?_; clear hJJ)
  go_wp2_with (first
    | ((with_reducible refine at_slot (some 56) ?_); refine wpList_load_mid rfl 23 (.tmp 2) rfl w.heap.size 0 rfl kc _ (by exact h_all hK7.out) Tryz.underlying23 rfl (by exact hCk.out) ?_)
    | fail)
  refine (hUp.out _).mono ?_
  rintro e W8 ⟨rfl, hb⟩
  have hK8 := zon hb hK7
  have hZ8 := zon hb hZ7
  have hB8 := zup hb hB7
  have hL8 := zon hb hL7
  have hN8 := zon hb hN7
  clear hb hK7 hZ7 hB7 hL7 hN7
  try (rename_i hJJ; refine hJJ _ _ ?_; clear hJJ)
  go_wp2_with fail
  refine (hSu.out _).mono ?_
  rintro e W9 ⟨rfl, hb⟩
  have hK9 := zon hb hK8
  have hZ9 := zon hb hZ8
  have hB9 := zup hb hB8
  have hL9 := zon hb hL8
  have hN9 := zon hb hN8
  clear hb hK8 hZ8 hB8 hL8 hN8
  try (rename_i hJJ; refine hJJ _ _ ?_; clear hJJ)
  go_wp2_with (first
    | ((with_reducible refine at_slot (some 13) ?_); refine wpList_run rfl (.pointer (some ⟨W9.heap.size, 0, none⟩)) (W9.alloc (.cells zk.toArray 39)) (by kernel_rfl) ?_)
    | ((with_reducible refine at_slot none ?_); refine wpList_store_mid rfl 39 (.tmp 13) (.tmp 61) rfl W9.heap.size 0 km.toArray rfl rfl (by exact hss_there W9 _ hCm.out.len) (by exact hCm.out.size) (by exact hCm.out.one) ?_; generalize hW : World.setCells _ _ _ _ = W10; obtain ⟨hN, hb⟩ := hss_new hCm.out.len hW; have hK10 := zon hb hK9; have hZ10 := zon hb hZ9; have hB10 := zup hb hB9; have hL10 := zon hb hL9; have hN10 := zon hb hN9; have hM10 := hid hN; clear hb hK9 hZ9 hB9 hL9 hN9 hN; have c4 := hK10.out.c 4 _ k4.out; have f4 := hK10.out.frozen 4; clear hW)
    | fail)
  obtain ⟨V7, hV7⟩ : ∃ V7, W10.setCell ⟨w.heap.size, 4, none⟩ (.int .i64 ((q : Int) + 1)) = V7 := ⟨_, rfl⟩
  have hX7 : W10.setCells w.heap.size 4 [.int .i64 ((q : Int) + 1)] = V7 := hV7
  have hK60 := hid (show Holds V7 w.heap.size 23 kc2 from by rw [← hkc2'.out, ← hV7]; exact hK10.out.set 4 _)
  have hZ60 := hid (holds_far hZ10.out (by omega) hX7)
  have hB60 := hid (below_put hB10.out (Nat.le_refl _) hX7)
  rw [hV7]
  clear hV7 hX7 c4 f4
  have hb : Below V7.heap.size V7 V7.drew := (Below.refl _ _).drew
  have hK61 := zon hb hK60
  have hZ61 := zon hb hZ60
  have hB61 := zup hb hB60
  clear hb hK60 hZ60 hB60
  refine wp_region_held_drew (S := fun V => Holds V w.heap.size 23 kc2) (by kernel_rfl) (by exact hK61.out) (fun zH => ?_)
  generalize V7.drew = W61 at *
  refine tkx 1 (.string su) zH ?_; simp only [lp]
  refine tkx 3 (.string pl) zH ?_; simp only [lp]
  refine tkx 5 (.string sl) zH ?_; simp only [lp]
  refine tkx 7 (.agg kc2.toArray) zH ?_ (hy := yieldsIf_load_mid (by kernel_rfl) _ _ rfl _ _ rfl _ _ (fun V hS => h_all hS) Tryz.underlying23 rfl (by exact hk2s.out.2)); simp only [lp]
  refine wpAnyH_ready (rs := [0]) (by kernel_rfl) (by simp) (AllReadyH.cons rfl (fun K hK => ?_) AllReadyH.nil)
  have hK' := hid hK
  clear hK
  rw [if_pos (by kernel_rfl)]
  simp only [ly1, ly3]
  go_simp
  refine (hU1.out _).mono ?_
  rintro e W62 ⟨rfl, hb⟩
  have hK62 := zon hb hK61
  have hZ62 := zon hb hZ61
  have hB62 := zup hb hB61
  clear hb hK61 hZ61 hB61
  refine hK'.out _ _ (by exact hK62.out) (fun zH => ?_)
  clear hK' K
  refine tkx 2 (.string (b1 ++ su)) zH ?_; simp only [lp]
  refine tkx 4 (.string (b1 ++ su ++ pl)) zH ?_; simp only [lp]
  refine tkx 6 (.string (b1 ++ su ++ pl ++ sl)) zH ?_; simp only [lp]
  refine tkx 8 (.string (b1 ++ su ++ pl ++ sl)) zH ?_; simp only [lp]
  refine wpAnyH_ready (rs := [9]) (by kernel_rfl) (by simp) (AllReadyH.cons rfl (fun K hK => ?_) AllReadyH.nil)
  have hK' := hid hK
  clear hK
  rw [if_pos (by kernel_rfl)]
  simp only [ly1, ly2, ly3]
  refine wp_store_mid _ _ _ rfl (w.heap.size + 1) 0 kc2.toArray rfl rfl (by exact hZ62.out.there 0 _ (by rw [List.size_toArray, hk2l]; decide)) (by exact hk2s.out.1) (by exact hk2o.out) ?_
  generalize hXx : World.setCells _ _ _ _ = W63
  have hZ63 := hid (hZ62.out.over (by rw [hk2l]; rfl) hXx)
  have hK63 := hid (holds_far hK62.out (by omega) hXx)
  have hB63 := hid (below_put hB62.out (by omega) hXx)
  clear hXx
  refine hK'.out _ _ (by exact hK63.out) (fun zH => ?_)
  clear hK' K
  refine tkx 10 (.int .i64 0) zH ?_; simp only [lp]
  refine wpAnyH_done (by kernel_rfl) ?_ _
  go_wp2_with fail
  rw [show keyC (kd : Int) (h : Int) id seed ((q : Int) + 1) = kc2 from hk2'.out, hans.out]
  exact bodyPost_ret (results_tct rfl _ _ (w.heap.size + 1) 23 _ (0, 0) _ _ _ rfl rfl hZ63.out rfl Tryz.underlying23 rfl (by exact hk2s.out.1)) rfl ⟨rfl, hB63.out⟩


end Go.Proofs.YtmfajekfipfjpaaGreat
