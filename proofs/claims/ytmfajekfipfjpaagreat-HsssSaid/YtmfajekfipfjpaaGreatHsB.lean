/- Layer 6, the program's side: the lower key, its public key by a signature. -/
import Derived.Test.YtmfajekfipfjpaaGreatHsA
import Derived.Test.YtmfajekfipfjpaaGreatTagX
namespace Go.Proofs.YtmfajekfipfjpaaGreat
open Go.RowKit
open Go.Lib (strCells strCells_length strCells_oneCell)
attribute [local irreducible] Sha.compress Sha.blocks Sha.sha Sha.pad

theorem hv_text16 (l : List UInt8) (hl : l.length = 32) (w : World) (g : Nat) (h : Holds w g 60 (byteCells l)) :
    (convert 65 9 (.slice (some ⟨g, 0, none⟩) 16 32)).run Tryz.prog w = .ok (.string (txt (l.take 16))) w := by
  have ht : (l.take 16).length = 16 := by rw [List.length_take]; omega
  have := run_convert_bytes_back (P := Tryz.prog) w 65 9 5 ⟨g, 0, none⟩ 32 (l.take 16) Tryz.underlying65 Tryz.underlying5 Tryz.underlying9 (fun j hj => by
    have e0 : (⟨g, 0, none⟩ : Addr).add j = ⟨g, j, none⟩ := by
      unfold Addr.add
      by_cases h0 : j = 0 <;> simp [h0]
    have hj2 : j < l.length := by omega
    rw [e0, h.cell, byteCells, List.getElem?_map, List.getElem?_eq_getElem hj2, List.getElem_take]
    rfl)
  rw [ht] at this
  exact this

/-- A digest of a lower key's parts. -/
def lowH (t : Nat) (id seed : ByteArray) (u : Nat) : List UInt8 := Sha.sha (tagL t [id, seed, be 4 u])
theorem lowH_len (t : Nat) (id seed : ByteArray) (u : Nat) : (lowH t id seed u).length = 32 := Ots.sha32 _
def lowId (id seed : ByteArray) (u : Nat) : ByteArray := txt ((lowH 2 id seed u).take 16)
def lowSeed (id seed : ByteArray) (u : Nat) : ByteArray := txt (lowH 3 id seed u)
theorem lowId_size (id seed : ByteArray) (u : Nat) : (lowId id seed u).size = 16 := by
  unfold lowId
  rw [txt_size, List.length_take, lowH_len]
  rfl
theorem lowSeed_size (id seed : ByteArray) (u : Nat) : (lowSeed id seed u).size = 32 := by
  unfold lowSeed
  rw [txt_size, lowH_len]
theorem tag3_any (t : Nat) (ht : t ≤ 4) (id seed : ByteArray) (u : Nat) (hi : id.size = 16) (hs : seed.size = 32) (n : Nat) (w : World) :
    Calls Tryz.prog 35 #[.int .i64 (t : Int), .slice (some ⟨w.heap.size, 0, none⟩) 3 n] (w.alloc (.cells #[.string id, .string seed, .string (be 4 u)] 9)) fun e w' => e = .returned (.tuple #[.agg (byteCells (lowH t id seed u)).toArray, .int .i64 0]) ∧ Below w.heap.size w w' := by
  have hX := Texts.new w [id, seed, be 4 u] #[.string id, .string seed, .string (be 4 u)] rfl 3 rfl 9
  have hz : ∀ s ∈ [id, seed, be 4 u], s.size ≤ 140737488351232 := by
    intro s h
    simp at h
    rcases h with rfl | rfl | rfl
    · omega
    · omega
    · rw [be_size]; omega
  have hm : tagMay (t : Int) [id, seed, be 4 u] = true := by
    unfold tagMay
    refine decide_eq_true ⟨by omega, by omega, ?_⟩
    simp only [totS]
    rw [be_size]
    omega
  refine (tagSum_any (t : Int) _ 3 n _ _ hX (by decide) hz).mono ?_
  rintro e w' ⟨rfl, hb⟩
  have hb0 : Below w.heap.size w (w.alloc (.cells #[.string id, .string seed, .string (be 4 u)] 9)) := (Below.refl _ _).alloc (Nat.le_refl _) _
  refine ⟨?_, hb0.trans (hb.mono hb0.size)⟩
  unfold tagAns
  rw [if_pos hm]
  rfl

set_option maxRecDepth 100000 in
set_option maxHeartbeats 2000000 in
theorem hLower_any (kd h q : Nat) (h5 : h ≤ 5) (hq : q ≤ 1024) (id seed : ByteArray) (hi16 : id.size = 16) (hs32 : seed.size = 32) (w : World) : Calls Tryz.prog 20 #[.agg #[.int .i64 (kd : Int), .int .i64 (h : Int), .string id, .string seed, .int .i64 (q : Int)]] w fun e w' => e = .returned (.tuple #[.agg (keyC (kd : Int) (h : Int) (lowId id seed (q / 2 ^ h)) (lowSeed id seed (q / 2 ^ h)) ((q % 2 ^ h : Nat) : Int)).toArray, .int .i64 0]) ∧ Below w.heap.size w w' := by
  obtain ⟨kc, hkc⟩ : ∃ kc, keyC (kd : Int) (h : Int) id seed (q : Int) = kc := ⟨_, rfl⟩
  have hA' := hid (show w.alloc (.cells #[.int .i64 (kd : Int), .int .i64 (h : Int), .string id, .string seed, .int .i64 (q : Int)] 23) = w.alloc (.cells kc.toArray 23) from by rw [← hkc]; rfl)
  obtain ⟨WA, hWA⟩ : ∃ WA, w.alloc (.cells kc.toArray 23) = WA := ⟨_, rfl⟩
  rw [hWA] at hA'
  have z1 : WA.heap.size = w.heap.size + 1 := by rw [← hWA]; simp
  obtain ⟨W0, hW0⟩ : ∃ W0, WA.alloc (.cells zk.toArray 39) = W0 := ⟨_, rfl⟩
  have hK0 := hid (show Holds W0 w.heap.size 23 kc from by rw [← hW0, ← hWA]; exact (Holds.new w 23 kc.toArray).alloc _)
  have hZ0 := hid (show Holds W0 (w.heap.size + 1) 39 zk from by rw [← hW0, ← z1]; exact Holds.new _ 39 zk.toArray)
  have hB0 := hid (show Below w.heap.size w W0 from by rw [← hW0, ← hWA]; exact ((Below.refl _ _).alloc (Nat.le_refl _) _).alloc (by simp) _)
  have hz := hid z1
  have hW0' := hid hW0
  have hsk := hid sizeKey
  have hCk := hid (show (Tryz.prog.info? 23).map (·.size) = some kc.length from by rw [← hkc]; exact sizeHss)
  have k0 := hid (show kc[0]? = some (.int .i64 (kd : Int)) from by rw [← hkc]; rfl)
  have k1 := hid (show kc[1]? = some (.int .i64 (h : Int)) from by rw [← hkc]; rfl)
  have k2 := hid (show kc[2]? = some (.string id) from by rw [← hkc]; rfl)
  have k3 := hid (show kc[3]? = some (.string seed) from by rw [← hkc]; rfl)
  have k4 := hid (show kc[4]? = some (.int .i64 (q : Int)) from by rw [← hkc]; rfl)
  obtain ⟨u, hu⟩ : ∃ u, q / 2 ^ h = u := ⟨_, rfl⟩
  have hUp := hid (fun W => show Calls Tryz.prog 14 #[.agg kc.toArray] W fun e w' => e = .returned (.agg #[.int .i64 (kd : Int), .int .i64 (h : Int), .string id, .string seed, .int .i64 (u : Int)]) ∧ Below W.heap.size W w' from by rw [← hkc, ← hu]; exact hUpper_any kd h q h5 (by omega) id seed W)
  rw [hu]
  have hU4 := hid (fun W => U32_any u W)
  have hT2 := hid (fun n W => tag3_any 2 (by decide) id seed u hi16 hs32 n W)
  have hT3 := hid (fun n W => tag3_any 3 (by decide) id seed u hi16 hs32 n W)
  obtain ⟨la, hla⟩ : ∃ l, lowH 2 id seed u = l := ⟨_, rfl⟩
  obtain ⟨lb, hlb⟩ : ∃ l, lowH 3 id seed u = l := ⟨_, rfl⟩
  have la32 : la.length = 32 := by rw [← hla]; exact lowH_len _ _ _ _
  have lb32 : lb.length = 32 := by rw [← hlb]; exact lowH_len _ _ _ _
  rw [hla] at hT2
  rw [hlb] at hT3
  unfold lowId lowSeed
  rw [hla, hlb]
  have hCa := hid (hash_cells la la32)
  have hCb := hid (hash_cells lb lb32)
  have hva := hid (fun W g hh => hv_text16 la la32 W g hh)
  have hvb := hid (fun W g hh => hv_text lb lb32 W g hh)
  obtain ⟨ti, hti⟩ : ∃ t, txt (la.take 16) = t := ⟨_, rfl⟩
  obtain ⟨ts, hts⟩ : ∃ t, txt lb = t := ⟨_, rfl⟩
  rw [hti] at hva ⊢
  rw [hts] at hvb ⊢
  obtain ⟨bu, hbu⟩ : ∃ b, be 4 u = b := ⟨_, rfl⟩
  rw [hbu] at hU4 hT2 hT3
  obtain ⟨r, hr⟩ : ∃ r, q % 2 ^ h = r := ⟨_, rfl⟩
  rw [hr]
  obtain ⟨Z, hZ⟩ : ∃ Z : Int, ((2 ^ h : Nat) : Int) = Z := ⟨_, rfl⟩
  have hp1 : 1 ≤ 2 ^ h := Nat.pow_pos (by decide)
  have hp32 : 2 ^ h ≤ 32 := Nat.le_trans (Nat.pow_le_pow_right (by decide) h5) (by decide)
  have hZw : IntKind.i64.wrap (2 ^ h) = Z := (shl_wrap h h5).trans hZ
  have hm64 : min h 64 = h := by omega
  obtain ⟨M, hM⟩ : ∃ M : Int, ((2 ^ h - 1 : Nat) : Int) = M := ⟨_, rfl⟩
  have hMw : IntKind.i64.wrap (Z - 1) = M := by rw [IntWalk.i64_in _ (by omega)]; omega
  have hand : bits .and .i64 (q : Int) M = (r : Int) := by rw [← hM, mask_and q h (by omega) (by omega), hr]
  clear hW0 hWA z1 hkc hu hla hlb hti hts hbu hr hZ hp1 hp32 hM hi16 hs32
  go_enter Tryz.func20, Tryz.ntmps20
  go_wp2_with (first
    | ((with_reducible refine at_slot (some 1) ?_); refine wpList_run rfl (.pointer (some ⟨w.heap.size, 0, none⟩)) (w.alloc (.cells #[.int .i64 (kd : Int), .int .i64 (h : Int), .string id, .string seed, .int .i64 (q : Int)] 23)) (by kernel_rfl) ?_; rw [hA'.out])
    | ((with_reducible refine at_slot (some 2) ?_); refine wpList_run rfl (.pointer (some ⟨WA.heap.size, 0, none⟩)) (WA.alloc (.cells zk.toArray 39)) (by kernel_rfl) ?_; rw [hW0'.out, hz.out])
    | ((with_reducible refine at_slot (some 9) ?_); refine wpList_load_mid rfl 23 (.tmp 1) rfl w.heap.size 0 rfl kc _ (by exact h_all hK0.out) Tryz.underlying23 rfl (by exact hCk.out) ?_)
    | fail)
  refine (hUp.out _).mono ?_
  rintro e W1 ⟨rfl, hb⟩
  have hK1 := zon hb hK0
  have hZ1 := zon hb hZ0
  have hB1 := zup hb hB0
  clear hb hK0 hZ0 hB0
  go_wp2_with (first
    | ((with_reducible refine at_slot (some 11) ?_); refine wpList_run rfl (.int .i64 (u : Int)) W1 (by kernel_rfl) ?_)
    | fail)
  refine (hU4.out _).mono ?_
  rintro e W2 ⟨rfl, hb⟩
  have hK2 := zon hb hK1
  have hZ2 := zon hb hZ1
  have hB2 := zup hb hB1
  clear hb hK1 hZ1 hB1
  have c2 := hK2.out.c 2 _ k2.out
  have c3 := hK2.out.c 3 _ k3.out
  go_wp2_with fail
  refine (hT2.out _ W2).mono ?_
  rintro e W3 ⟨rfl, hb⟩
  have hK3 := zon hb hK2
  have hZ3 := zon hb hZ2
  have hB3 := zup hb hB2
  clear hb hK2 hZ2 hB2 c2 c3
  try (rename_i hKK; refine hKK _ _ ?_; clear hKK)
  have hg5x := hid (show w.heap.size + 1 < W3.heap.size from hZ3.out.lt)
  go_wp2_with (first
    | ((with_reducible refine at_slot (some 5) ?_); refine wpList_run rfl (.pointer (some ⟨W3.heap.size, 0, none⟩)) (W3.alloc (.cells z32 60)) (by kernel_rfl) ?_)
    | ((with_reducible refine at_slot none ?_); refine wpList_store_mid rfl 60 (.tmp 5) (.tmp 21) rfl W3.heap.size 0 (byteCells la).toArray rfl rfl (by exact hCa.out.there W3) (by exact hCa.out.size) (by exact hCa.out.one) ?_; generalize hW : World.setCells _ _ _ _ = W4; obtain ⟨hN, hb⟩ := hCa.out.new hW; have hK4 := zon hb hK3; have hZ4 := zon hb hZ3; have hB4 := zup hb hB3; have hX4 := hid hN; clear hb hK3 hZ3 hB3 hN; have c2 := hK4.out.c 2 _ k2.out; have c3 := hK4.out.c 3 _ k3.out; clear hW)
    | fail)
  obtain ⟨g5, hg5⟩ : ∃ g, W3.heap.size = g := ⟨_, rfl⟩
  rw [hg5] at hX4 hg5x ⊢
  clear hg5
  refine (hT3.out _ W4).mono ?_
  rintro e W5 ⟨rfl, hb⟩
  have hK5 := zon hb hK4
  have hZ5 := zon hb hZ4
  have hB5 := zup hb hB4
  have hX5 := zon hb hX4
  clear hb hK4 hZ4 hB4 hX4 c2 c3
  try (rename_i hKK; refine hKK _ _ ?_; clear hKK)
  have hg7x := hid (show w.heap.size + 1 < W5.heap.size from hZ5.out.lt)
  go_wp2_with (first
    | ((with_reducible refine at_slot (some 7) ?_); refine wpList_run rfl (.pointer (some ⟨W5.heap.size, 0, none⟩)) (W5.alloc (.cells z32 60)) (by kernel_rfl) ?_)
    | ((with_reducible refine at_slot none ?_); refine wpList_store_mid rfl 60 (.tmp 7) (.tmp 35) rfl W5.heap.size 0 (byteCells lb).toArray rfl rfl (by exact hCb.out.there W5) (by exact hCb.out.size) (by exact hCb.out.one) ?_; generalize hW : World.setCells _ _ _ _ = W6; obtain ⟨hN, hb⟩ := hCb.out.new hW; have hK6 := zon hb hK5; have hZ6 := zon hb hZ5; have hB6 := zup hb hB5; have hX6 := zon hb hX5; have hY6 := hid hN; clear hb hK5 hZ5 hB5 hX5 hN; clear hW)
    | fail)
  obtain ⟨g7, hg7⟩ : ∃ g, W5.heap.size = g := ⟨_, rfl⟩
  rw [hg7] at hY6 hg7x ⊢
  clear hg7
  have hgx := hid (And.intro hg5x.out hg7x.out)
  have hb : Below W6.heap.size W6 W6.drew := (Below.refl _ _).drew
  have hK7 := zon hb hK6
  have hZ7 := zon hb hZ6
  have hB7 := zup hb hB6
  have hX7 := zon hb hX6
  have hY7 := zon hb hY6
  clear hb hK6 hZ6 hB6 hX6 hY6
  refine wp_region_held_drew (S := fun V => Holds V w.heap.size 23 kc) (by kernel_rfl) (by exact hK7.out) (fun zH => ?_)
  generalize W6.drew = W7 at *
  refine tkx 0 (.pointer (some ⟨w.heap.size, 4, none⟩)) zH ?_; simp only [lp]
  refine tkx 1 (.int .i64 (q : Int)) zH ?_ (hy := .inl ⟨by kernel_rfl, fun V hS => by have c4 := hS.c 4 _ k4.out; go_simp⟩); simp only [lp]
  refine tkx 2 (.pointer (some ⟨w.heap.size, 1, none⟩)) zH ?_; simp only [lp]
  refine tkx 3 (.int .i64 (h : Int)) zH ?_ (hy := .inl ⟨by kernel_rfl, fun V hS => by have c1 := hS.c 1 _ k1.out; go_simp⟩); simp only [lp]
  refine tkx 4 (.int .i64 Z) zH ?_; simp only [lp]
  refine tkx 5 (.int .i64 M) zH ?_; simp only [lp]
  refine tkx 6 (.int .i64 (r : Int)) zH ?_; simp only [lp]
  refine tkx 7 (.int .i64 (r : Int)) zH ?_; simp only [lp]
  refine wpAnyH_done (by kernel_rfl) ?_ _
  go_wp2_with fail
  have hb : Below W7.heap.size W7 W7.drew := (Below.refl _ _).drew
  have hK8 := zon hb hK7
  have hZ8 := zon hb hZ7
  have hB8 := zup hb hB7
  have hX8 := zon hb hX7
  have hY8 := zon hb hY7
  clear hb hK7 hZ7 hB7 hX7 hY7
  refine wp_region_held_drew (S := fun V => Holds V w.heap.size 23 kc ∧ Holds V g5 60 (byteCells la) ∧ Holds V g7 60 (byteCells lb)) (by kernel_rfl) (by exact ⟨hK8.out, hX8.out, hY8.out⟩) (fun zH => ?_)
  generalize W7.drew = W8 at *
  refine tkx 0 (.pointer (some ⟨w.heap.size, 0, none⟩)) zH ?_; simp only [lp]
  refine tkx 1 (.int .i64 (kd : Int)) zH ?_ (hy := .inl ⟨by kernel_rfl, fun V hS => by have c0 := hS.1.c 0 _ k0.out; go_simp⟩); simp only [lp]
  refine tkx 2 (.pointer (some ⟨w.heap.size, 1, none⟩)) zH ?_; simp only [lp]
  refine tkx 3 (.int .i64 (h : Int)) zH ?_ (hy := .inl ⟨by kernel_rfl, fun V hS => by have c1 := hS.1.c 1 _ k1.out; go_simp⟩); simp only [lp]
  refine tkx 4 (.slice (some ⟨g5, 0, none⟩) 16 32) zH ?_; simp only [lp]
  refine tkx 5 (.string ti) zH ?_ (hy := .inl ⟨by kernel_rfl, fun V hS => by have hc := hva.out V _ hS.2.1; go_simp⟩); simp only [lp]
  refine tkx 6 (.slice (some ⟨g7, 0, none⟩) 32 32) zH ?_; simp only [lp]
  refine tkx 7 (.string ts) zH ?_ (hy := .inl ⟨by kernel_rfl, fun V hS => by have hc := hvb.out V _ hS.2.2; go_simp⟩); simp only [lp]
  refine tkx 8 (.int .i64 (r : Int)) zH ?_; simp only [lp]
  refine tkx 9 (.agg (keyC (kd : Int) (h : Int) ti ts (r : Int)).toArray) zH ?_ (hy := .inl ⟨by kernel_rfl, fun w _ => by unfold keyC; go_simp⟩); simp only [lp]
  refine wpAnyH_ready (rs := [10]) (by kernel_rfl) (by simp) (AllReadyH.cons rfl (fun K hK => ?_) AllReadyH.nil)
  have hK' := hid hK
  clear hK
  rw [if_pos (by kernel_rfl)]
  simp only [ly1, ly2, ly3]
  refine wp_store_mid _ _ _ rfl (w.heap.size + 1) 0 (keyC (kd : Int) (h : Int) ti ts (r : Int)).toArray rfl rfl (by exact hZ8.out.there 0 _ (Nat.le_refl 5)) (by exact hsk.out) (by exact keyC_one _ _ _ _ _) ?_
  generalize hXx : World.setCells _ _ _ _ = W9
  have hZ9 := hid (Holds.over (cs := keyC (kd : Int) (h : Int) ti ts (r : Int)) hZ8.out rfl hXx)
  have hK9 := hid (holds_far hK8.out (by omega) hXx)
  have hX9 := hid (holds_far hX8.out (by have := hgx.out.1; omega) hXx)
  have hY9 := hid (holds_far hY8.out (by have := hgx.out.2; omega) hXx)
  have hB9 := hid (below_put hB8.out (by omega) hXx)
  clear hXx
  refine hK'.out _ _ (by exact ⟨hK9.out, hX9.out, hY9.out⟩) (fun zH => ?_)
  clear hK' K
  refine tkx 11 (.int .i64 0) zH ?_; simp only [lp]
  refine wpAnyH_done (by kernel_rfl) ?_ _
  go_wp2_with fail
  exact bodyPost_ret (results_ct rfl _ _ (w.heap.size + 1) 39 _ (0, 0) _ rfl hZ9.out (.int .i64 0) rfl Tryz.underlying39 rfl (by exact hsk.out)) rfl ⟨rfl, hB9.out⟩


end Go.Proofs.YtmfajekfipfjpaaGreat
