/- Layer 6, the program's side: which keys may be, the upper key, what is left. -/
import Derived.Test.YtmfajekfipfjpaaGreatLmVe
set_option maxRecDepth 100000
namespace Go.Proofs.YtmfajekfipfjpaaGreat
open Go.RowKit
open Go.Lib (strCells strCells_length strCells_oneCell)
attribute [local irreducible] Sha.compress Sha.blocks Sha.sha Sha.pad

theorem sizeHss : (Tryz.prog.info? 23).map (·.size) = some 5 := by kernel_rfl
theorem shl_wrap10 (k : Nat) (h : k ≤ 10) : IntKind.i64.wrap (2 ^ k) = ((2 ^ k : Nat) : Int) := by
  have hc : k = 0 ∨ k = 1 ∨ k = 2 ∨ k = 3 ∨ k = 4 ∨ k = 5 ∨ k = 6 ∨ k = 7 ∨ k = 8 ∨ k = 9 ∨ k = 10 := by omega
  rcases hc with rfl | rfl | rfl | rfl | rfl | rfl | rfl | rfl | rfl | rfl | rfl <;> decide
/-- May a key be? -/
def hOk (o ht : Int) (id seed : ByteArray) (nx : Int) : Bool := (Ots.par o).isSome && (decide (1 ≤ ht ∧ ht ≤ 5) && (decide (id.size = 16) && (decide (seed.size = 32) && (decide (0 ≤ nx) && decide (nx ≤ ((2 ^ (2 * ht.toNat) : Nat) : Int))))))

set_option maxHeartbeats 4000000 in
theorem hMay_any (o ht : Int) (id seed : ByteArray) (nx : Int) (w : World) : Calls Tryz.prog 12 #[.agg #[.int .i64 o, .int .i64 ht, .string id, .string seed, .int .i64 nx]] w fun e w' => e = .returned (.bool (hOk o ht id seed nx)) ∧ Below w.heap.size w w' := by
  obtain ⟨R, hR⟩ : ∃ R, hOk o ht id seed nx = R := ⟨_, rfl⟩
  rw [hR]
  unfold hOk at hR
  obtain ⟨cs, ok, hans, ⟨hcs, h1c⟩, hok⟩ : ∃ cs ok, parAns o = .tuple #[.agg cs, .bool ok] ∧ (cs.size = 3 ∧ cs.all (·.oneCell') = true) ∧ (Ots.par o).isSome = ok := by
    unfold parAns
    cases hp : Ots.par o with
    | none => exact ⟨noC, false, rfl, ⟨rfl, by simp [noC, Value.oneCell']⟩, rfl⟩
    | some p => exact ⟨parC p, true, rfl, ⟨rfl, by simp [parC, Value.oneCell']⟩, rfl⟩
  rw [hok] at hR
  have hR' := hid hR
  have hans' := hid hans
  clear hans hR hok
  obtain ⟨W0, hW0⟩ : ∃ W0, w.alloc (.cells (keyC o ht id seed nx).toArray 23) = W0 := ⟨_, rfl⟩
  have hK0 := hid (show Holds W0 w.heap.size 23 (keyC o ht id seed nx) from by rw [← hW0]; exact Holds.new _ _ _)
  have hB0 := hid (show Below w.heap.size w W0 from by rw [← hW0]; exact (Below.refl _ _).alloc (Nat.le_refl _) _)
  have hW0' := hid hW0
  have hc0 := hid (hK0.out.c 0 _ rfl)
  clear hW0
  go_enter Tryz.func12, Tryz.ntmps12
  go_wp2_with (first
    | ((with_reducible refine at_slot (some 1) ?_); refine wpList_run rfl (.pointer (some ⟨w.heap.size, 0, none⟩)) (w.alloc (.cells (keyC o ht id seed nx).toArray 23)) (by kernel_rfl) ?_; rw [hW0'.out])
    | ((with_reducible refine at_slot (some 7) ?_); refine wpList_run rfl (.int .i64 o) W0 (by have c0 := hc0.out; go_simp) ?_)
    | fail)
  refine (OtsOf_any o _).mono ?_
  rintro e W2 ⟨rfl, hb2⟩
  rw [hans'.out]
  have hsz := par_size cs hcs
  have hthere := par_there W2 cs hcs
  rename_i hK1
  refine hK1 _ _ ?_
  clear hK1
  have hK2 := hid (hK0.out.below hb2 hK0.out.lt)
  have hB2 := hid (below_up hb2 hB0.out)
  clear hb2 hc0
  go_wp2_with (first
    | ((with_reducible refine at_slot (some 3) ?_); refine wpList_run rfl (.pointer (some ⟨W2.heap.size, 0, none⟩)) (W2.alloc (.cells noC 54)) (by kernel_rfl) ?_)
    | ((with_reducible refine at_slot none ?_); refine wpList_store_mid rfl 54 (.tmp 3) (.tmp 9) rfl W2.heap.size 0 cs rfl rfl (by exact hthere) (by exact hsz) (by exact h1c) ?_; generalize hW7 : World.setCells _ _ _ _ = W7
       have hP7 := par_new cs hcs hW7
       have hK7 := hid (hK2.out.below hP7.2 hK2.out.lt)
       have hB7 := hid (below_up hP7.2 hB2.out)
       clear hP7 hW7)
    | fail)
  have hb : Below W7.heap.size W7 W7.drew := (Below.refl _ _).drew
  have hK8 := zon hb hK7
  have hB8 := zup hb hB7
  clear hb hthere hK2 hB2 hK7 hB7
  refine wp_region_held_drew (S := fun W => Holds W w.heap.size 23 (keyC o ht id seed nx)) (by kernel_rfl) (by exact hK8.out) (fun zH => ?_)
  generalize W7.drew = W8 at *
  cases ok with
  | false =>
    refine tkx 0 (.bool false) zH ?_; simp only [lp]
    refine tkx 1 (.bool false) zH ?_; simp only [lp]
    refine tkx 2 undef zH ?_
    refine tkx 3 undef zH ?_
    refine tkx 4 undef zH ?_; simp only [lp]
    refine tkx 5 (.bool false) zH ?_; simp only [lp]
    refine tkx 6 (.bool false) zH ?_; simp only [lp]
    refine tkx 7 undef zH ?_
    refine tkx 8 undef zH ?_
    refine tkx 9 undef zH ?_
    refine tkx 10 undef zH ?_; simp only [lp]
    refine tkx 11 (.bool false) zH ?_; simp only [lp]
    refine tkx 12 (.bool false) zH ?_; simp only [lp]
    refine tkx 13 undef zH ?_
    refine tkx 14 undef zH ?_
    refine tkx 15 undef zH ?_
    refine tkx 16 undef zH ?_; simp only [lp]
    refine tkx 17 (.bool false) zH ?_; simp only [lp]
    refine tkx 18 (.bool false) zH ?_; simp only [lp]
    refine tkx 19 undef zH ?_
    refine tkx 20 undef zH ?_
    refine tkx 21 undef zH ?_; simp only [lp]
    refine tkx 22 (.bool false) zH ?_; simp only [lp]
    refine tkx 23 (.bool false) zH ?_; simp only [lp]
    refine tkx 24 undef zH ?_
    refine tkx 25 undef zH ?_
    refine tkx 26 undef zH ?_
    refine tkx 27 undef zH ?_
    refine tkx 28 undef zH ?_
    refine tkx 29 undef zH ?_
    refine tkx 30 undef zH ?_; simp only [lp]
    refine tkx 31 (.bool false) zH ?_; simp only [lp]
    refine tkx 32 (.bool false) zH ?_; simp only [lp]
    refine wpAnyH_done (by kernel_rfl) ?_ _
    go_wp2_with fail
    go_ret
    exact ⟨by rw [← hR'.out]; rfl, hB8.out⟩
  | true =>
    refine tkx 0 (.bool true) zH ?_; simp only [lp]
    refine tkx 1 (.bool true) zH ?_; simp only [lp]
    refine tkx 2 (.pointer (some ⟨w.heap.size, 1, none⟩)) zH ?_; simp only [lp]
    refine tkx 3 (.int .i64 ht) zH ?_ (hy := .inl ⟨by kernel_rfl, fun W hS => by have c1 := hS.c 1 _ rfl; go_simp⟩); simp only [lp]
    refine wpAnyH_ready (rs := [4]) (by kernel_rfl) (by simp) (AllReadyH.cons rfl (fun K hK => ?_) AllReadyH.nil)
    have hK' := hid hK
    clear hK
    rw [if_pos (by kernel_rfl)]
    simp only [ly1, ly2, ly3]
    go_simp
    by_cases hp1 : 1 ≤ ht ∧ ht ≤ 5
    · have hq1 := decide_eq_true hp1
      have hHM1 := hid (fun W => by have h := HeightMay_any ht W; rw [decide_eq_true hp1] at h; exact h)
      refine (hHM1.out _).mono ?_
      rintro e w' ⟨rfl, rfl⟩
      refine hK'.out _ _ (by exact hK8.out) (fun zH => ?_)
      clear hK' K
      refine tkx 5 (.bool true) zH ?_; simp only [lp]
      refine tkx 6 (.bool true) zH ?_; simp only [lp]
      refine tkx 7 (.pointer (some ⟨w.heap.size, 2, none⟩)) zH ?_; simp only [lp]
      refine tkx 8 (.string id) zH ?_ (hy := .inl ⟨by kernel_rfl, fun W hS => by have c2 := hS.c 2 _ rfl; go_simp⟩); simp only [lp]
      refine tkx 9 (.int .i64 (id.size : Int)) zH ?_; simp only [lp]
      by_cases hp2 : id.size = 16
      · have hq2 := decide_eq_true hp2
        have hf2 : ((id.size : Int) == 16) = true := by simp; omega
        refine tkx 10 (.bool true) zH ?_; simp only [lp]
        refine tkx 11 (.bool true) zH ?_; simp only [lp]
        refine tkx 12 (.bool true) zH ?_; simp only [lp]
        refine tkx 13 (.pointer (some ⟨w.heap.size, 3, none⟩)) zH ?_; simp only [lp]
        refine tkx 14 (.string seed) zH ?_ (hy := .inl ⟨by kernel_rfl, fun W hS => by have c3 := hS.c 3 _ rfl; go_simp⟩); simp only [lp]
        refine tkx 15 (.int .i64 (seed.size : Int)) zH ?_; simp only [lp]
        by_cases hp3 : seed.size = 32
        · have hq3 := decide_eq_true hp3
          have hf3 : ((seed.size : Int) == 32) = true := by simp; omega
          refine tkx 16 (.bool true) zH ?_; simp only [lp]
          refine tkx 17 (.bool true) zH ?_; simp only [lp]
          refine tkx 18 (.bool true) zH ?_; simp only [lp]
          refine tkx 19 (.pointer (some ⟨w.heap.size, 4, none⟩)) zH ?_; simp only [lp]
          refine tkx 20 (.int .i64 nx) zH ?_ (hy := .inl ⟨by kernel_rfl, fun W hS => by have c4 := hS.c 4 _ rfl; go_simp⟩); simp only [lp]
          by_cases hp4 : 0 ≤ nx
          · have hq4 := decide_eq_true hp4
            obtain ⟨Z, hZ⟩ : ∃ Z : Int, ((2 ^ (2 * ht.toNat) : Nat) : Int) = Z := ⟨_, rfl⟩
            obtain ⟨t2, ht2⟩ : ∃ t2 : Int, 2 * ht = t2 := ⟨_, rfl⟩
            have ht2w : IntKind.i64.wrap t2 = t2 := IntWalk.i64_in _ (by omega)
            have ht0 : 0 ≤ t2 := by omega
            have hZw : IntKind.i64.wrap (2 ^ t2.toNat) = Z := by rw [← hZ, show 2 * ht.toNat = t2.toNat from by omega]; exact shl_wrap10 _ (by omega)
            have hm64 : min t2.toNat 64 = t2.toNat := by omega
            refine tkx 21 (.bool true) zH ?_; simp only [lp]
            refine tkx 22 (.bool true) zH ?_; simp only [lp]
            refine tkx 23 (.bool true) zH ?_; simp only [lp]
            refine tkx 24 (.pointer (some ⟨w.heap.size, 4, none⟩)) zH ?_; simp only [lp]
            refine tkx 25 (.int .i64 nx) zH ?_ (hy := .inl ⟨by kernel_rfl, fun W hS => by have c4 := hS.c 4 _ rfl; go_simp⟩); simp only [lp]
            refine tkx 26 (.pointer (some ⟨w.heap.size, 1, none⟩)) zH ?_; simp only [lp]
            refine tkx 27 (.int .i64 ht) zH ?_ (hy := .inl ⟨by kernel_rfl, fun W hS => by have c1 := hS.c 1 _ rfl; go_simp⟩); simp only [lp]
            refine tkx 28 (.int .i64 t2) zH ?_; simp only [lp]
            refine tkx 29 (.int .i64 Z) zH ?_; simp only [lp]
            by_cases hp5 : nx ≤ ((2 ^ (2 * ht.toNat) : Nat) : Int)
            · have hq5 := decide_eq_true hp5
              have hf5 : decide (nx ≤ Z) = true := decide_eq_true (by rw [← hZ]; exact hp5)
              refine tkx 30 (.bool true) zH ?_; simp only [lp]
              refine tkx 31 (.bool true) zH ?_; simp only [lp]
              refine tkx 32 (.bool true) zH ?_; simp only [lp]
              refine wpAnyH_done (by kernel_rfl) ?_ _
              go_wp2_with fail
              go_ret
              exact ⟨by rw [← hR'.out]; rw [hq1, hq2, hq3, hq4, hq5]; rfl, hB8.out⟩
            · have hq5 := decide_eq_false hp5
              have hf5 : decide (nx ≤ Z) = false := decide_eq_false (by rw [← hZ]; exact hp5)
              refine tkx 30 (.bool false) zH ?_; simp only [lp]
              refine tkx 31 (.bool false) zH ?_; simp only [lp]
              refine tkx 32 (.bool false) zH ?_; simp only [lp]
              refine wpAnyH_done (by kernel_rfl) ?_ _
              go_wp2_with fail
              go_ret
              exact ⟨by rw [← hR'.out]; rw [hq1, hq2, hq3, hq4, hq5]; rfl, hB8.out⟩
          · have hq4 := decide_eq_false hp4
            have hf4 : decide (0 ≤ nx) = false := decide_eq_false hp4
            refine tkx 21 (.bool false) zH ?_; simp only [lp]
            refine tkx 22 (.bool false) zH ?_; simp only [lp]
            refine tkx 23 (.bool false) zH ?_; simp only [lp]
            refine tkx 24 undef zH ?_
            refine tkx 25 undef zH ?_
            refine tkx 26 undef zH ?_
            refine tkx 27 undef zH ?_
            refine tkx 28 undef zH ?_
            refine tkx 29 undef zH ?_
            refine tkx 30 undef zH ?_; simp only [lp]
            refine tkx 31 (.bool false) zH ?_; simp only [lp]
            refine tkx 32 (.bool false) zH ?_; simp only [lp]
            refine wpAnyH_done (by kernel_rfl) ?_ _
            go_wp2_with fail
            go_ret
            exact ⟨by rw [← hR'.out]; rw [hq1, hq2, hq3, hq4]; rfl, hB8.out⟩
        · have hq3 := decide_eq_false hp3
          have hf3 : ((seed.size : Int) == 32) = false := by simp; omega
          refine tkx 16 (.bool false) zH ?_; simp only [lp]
          refine tkx 17 (.bool false) zH ?_; simp only [lp]
          refine tkx 18 (.bool false) zH ?_; simp only [lp]
          refine tkx 19 undef zH ?_
          refine tkx 20 undef zH ?_
          refine tkx 21 undef zH ?_; simp only [lp]
          refine tkx 22 (.bool false) zH ?_; simp only [lp]
          refine tkx 23 (.bool false) zH ?_; simp only [lp]
          refine tkx 24 undef zH ?_
          refine tkx 25 undef zH ?_
          refine tkx 26 undef zH ?_
          refine tkx 27 undef zH ?_
          refine tkx 28 undef zH ?_
          refine tkx 29 undef zH ?_
          refine tkx 30 undef zH ?_; simp only [lp]
          refine tkx 31 (.bool false) zH ?_; simp only [lp]
          refine tkx 32 (.bool false) zH ?_; simp only [lp]
          refine wpAnyH_done (by kernel_rfl) ?_ _
          go_wp2_with fail
          go_ret
          exact ⟨by rw [← hR'.out]; rw [hq1, hq2, hq3]; rfl, hB8.out⟩
      · have hq2 := decide_eq_false hp2
        have hf2 : ((id.size : Int) == 16) = false := by simp; omega
        refine tkx 10 (.bool false) zH ?_; simp only [lp]
        refine tkx 11 (.bool false) zH ?_; simp only [lp]
        refine tkx 12 (.bool false) zH ?_; simp only [lp]
        refine tkx 13 undef zH ?_
        refine tkx 14 undef zH ?_
        refine tkx 15 undef zH ?_
        refine tkx 16 undef zH ?_; simp only [lp]
        refine tkx 17 (.bool false) zH ?_; simp only [lp]
        refine tkx 18 (.bool false) zH ?_; simp only [lp]
        refine tkx 19 undef zH ?_
        refine tkx 20 undef zH ?_
        refine tkx 21 undef zH ?_; simp only [lp]
        refine tkx 22 (.bool false) zH ?_; simp only [lp]
        refine tkx 23 (.bool false) zH ?_; simp only [lp]
        refine tkx 24 undef zH ?_
        refine tkx 25 undef zH ?_
        refine tkx 26 undef zH ?_
        refine tkx 27 undef zH ?_
        refine tkx 28 undef zH ?_
        refine tkx 29 undef zH ?_
        refine tkx 30 undef zH ?_; simp only [lp]
        refine tkx 31 (.bool false) zH ?_; simp only [lp]
        refine tkx 32 (.bool false) zH ?_; simp only [lp]
        refine wpAnyH_done (by kernel_rfl) ?_ _
        go_wp2_with fail
        go_ret
        exact ⟨by rw [← hR'.out]; rw [hq1, hq2]; rfl, hB8.out⟩
    · have hq1 := decide_eq_false hp1
      have hHM0 := hid (fun W => by have h := HeightMay_any ht W; rw [decide_eq_false hp1] at h; exact h)
      refine (hHM0.out _).mono ?_
      rintro e w' ⟨rfl, rfl⟩
      refine hK'.out _ _ (by exact hK8.out) (fun zH => ?_)
      clear hK' K
      refine tkx 5 (.bool false) zH ?_; simp only [lp]
      refine tkx 6 (.bool false) zH ?_; simp only [lp]
      refine tkx 7 undef zH ?_
      refine tkx 8 undef zH ?_
      refine tkx 9 undef zH ?_
      refine tkx 10 undef zH ?_; simp only [lp]
      refine tkx 11 (.bool false) zH ?_; simp only [lp]
      refine tkx 12 (.bool false) zH ?_; simp only [lp]
      refine tkx 13 undef zH ?_
      refine tkx 14 undef zH ?_
      refine tkx 15 undef zH ?_
      refine tkx 16 undef zH ?_; simp only [lp]
      refine tkx 17 (.bool false) zH ?_; simp only [lp]
      refine tkx 18 (.bool false) zH ?_; simp only [lp]
      refine tkx 19 undef zH ?_
      refine tkx 20 undef zH ?_
      refine tkx 21 undef zH ?_; simp only [lp]
      refine tkx 22 (.bool false) zH ?_; simp only [lp]
      refine tkx 23 (.bool false) zH ?_; simp only [lp]
      refine tkx 24 undef zH ?_
      refine tkx 25 undef zH ?_
      refine tkx 26 undef zH ?_
      refine tkx 27 undef zH ?_
      refine tkx 28 undef zH ?_
      refine tkx 29 undef zH ?_
      refine tkx 30 undef zH ?_; simp only [lp]
      refine tkx 31 (.bool false) zH ?_; simp only [lp]
      refine tkx 32 (.bool false) zH ?_; simp only [lp]
      refine wpAnyH_done (by kernel_rfl) ?_ _
      go_wp2_with fail
      go_ret
      exact ⟨by rw [← hR'.out]; rw [hq1]; rfl, hB8.out⟩

set_option maxHeartbeats 1000000 in
theorem hUpper_any (kd h q : Nat) (h5 : h ≤ 5) (hq : q ≤ 2000) (id seed : ByteArray) (w : World) : Calls Tryz.prog 14 #[.agg #[.int .i64 (kd : Int), .int .i64 (h : Int), .string id, .string seed, .int .i64 (q : Int)]] w fun e w' => e = .returned (.agg (keyC (kd : Int) (h : Int) id seed ((q / 2 ^ h : Nat) : Int)).toArray) ∧ Below w.heap.size w w' := by
  obtain ⟨kc, hkc⟩ : ∃ kc, keyC (kd : Int) (h : Int) id seed (q : Int) = kc := ⟨_, rfl⟩
  have hA' := hid (show w.alloc (.cells #[.int .i64 (kd : Int), .int .i64 (h : Int), .string id, .string seed, .int .i64 (q : Int)] 23) = w.alloc (.cells kc.toArray 23) from by rw [← hkc]; rfl)
  obtain ⟨WA, hWA⟩ : ∃ WA, w.alloc (.cells kc.toArray 23) = WA := ⟨_, rfl⟩
  rw [hWA] at hA'
  have z1 : WA.heap.size = w.heap.size + 1 := by rw [← hWA]; simp
  obtain ⟨W0, hW0⟩ : ∃ W0, WA.alloc (.cells zk.toArray 39) = W0 := ⟨_, rfl⟩
  have hK0 := hid (show Holds W0 w.heap.size 23 kc from by rw [← hW0, ← hWA]; exact (Holds.new w 23 kc.toArray).alloc _)
  have hZ0 := hid (show Holds W0 (w.heap.size + 1) 39 zk from by rw [← hW0, ← z1]; exact Holds.new _ 39 zk.toArray)
  have hB0 := hid (show Below w.heap.size w W0 from by rw [← hW0, ← hWA]; exact ((Below.refl _ _).alloc (Nat.le_refl _) _).alloc (by simp) _)
  have hz := hid z1
  have hW0' := hid hW0
  have hsk := hid sizeKey
  have k0 := hid (show kc[0]? = some (.int .i64 (kd : Int)) from by rw [← hkc]; rfl)
  have k1 := hid (show kc[1]? = some (.int .i64 (h : Int)) from by rw [← hkc]; rfl)
  have k2 := hid (show kc[2]? = some (.string id) from by rw [← hkc]; rfl)
  have k3 := hid (show kc[3]? = some (.string seed) from by rw [← hkc]; rfl)
  have k4 := hid (show kc[4]? = some (.int .i64 (q : Int)) from by rw [← hkc]; rfl)
  obtain ⟨u, hu⟩ : ∃ u, q / 2 ^ h = u := ⟨_, rfl⟩
  rw [hu]
  have hue : (q : Int) / 2 ^ h = (u : Int) := by rw [← hu]; simp
  have huw : IntKind.i64.wrap (u : Int) = (u : Int) := IntWalk.i64_in _ (by have := Nat.div_le_self q (2 ^ h); omega)
  have hm64 : min h 64 = h := by omega
  clear hW0 hWA z1 hkc hu
  go_enter Tryz.func14, Tryz.ntmps14
  go_wp2_with (first
    | ((with_reducible refine at_slot (some 1) ?_); refine wpList_run rfl (.pointer (some ⟨w.heap.size, 0, none⟩)) (w.alloc (.cells #[.int .i64 (kd : Int), .int .i64 (h : Int), .string id, .string seed, .int .i64 (q : Int)] 23)) (by kernel_rfl) ?_; rw [hA'.out])
    | ((with_reducible refine at_slot (some 2) ?_); refine wpList_run rfl (.pointer (some ⟨WA.heap.size, 0, none⟩)) (WA.alloc (.cells zk.toArray 39)) (by kernel_rfl) ?_; rw [hW0'.out, hz.out])
    | fail)
  have hb : Below W0.heap.size W0 W0.drew := (Below.refl _ _).drew
  have hK1 := zon hb hK0
  have hZ1 := zon hb hZ0
  have hB1 := zup hb hB0
  clear hb hK0 hZ0 hB0
  refine wp_region_held_drew (S := fun V => Holds V w.heap.size 23 kc) (by kernel_rfl) (by exact hK1.out) (fun zH => ?_)
  generalize W0.drew = W1 at *
  refine tkx 0 (.pointer (some ⟨w.heap.size, 0, none⟩)) zH ?_; simp only [lp]
  refine tkx 1 (.int .i64 (kd : Int)) zH ?_ (hy := .inl ⟨by kernel_rfl, fun V hS => by have c0 := hS.c 0 _ k0.out; go_simp⟩); simp only [lp]
  refine tkx 2 (.pointer (some ⟨w.heap.size, 1, none⟩)) zH ?_; simp only [lp]
  refine tkx 3 (.int .i64 (h : Int)) zH ?_ (hy := .inl ⟨by kernel_rfl, fun V hS => by have c1 := hS.c 1 _ k1.out; go_simp⟩); simp only [lp]
  refine tkx 4 (.pointer (some ⟨w.heap.size, 2, none⟩)) zH ?_; simp only [lp]
  refine tkx 5 (.string id) zH ?_ (hy := .inl ⟨by kernel_rfl, fun V hS => by have c2 := hS.c 2 _ k2.out; go_simp⟩); simp only [lp]
  refine tkx 6 (.pointer (some ⟨w.heap.size, 3, none⟩)) zH ?_; simp only [lp]
  refine tkx 7 (.string seed) zH ?_ (hy := .inl ⟨by kernel_rfl, fun V hS => by have c3 := hS.c 3 _ k3.out; go_simp⟩); simp only [lp]
  refine tkx 8 (.pointer (some ⟨w.heap.size, 4, none⟩)) zH ?_; simp only [lp]
  refine tkx 9 (.int .i64 (q : Int)) zH ?_ (hy := .inl ⟨by kernel_rfl, fun V hS => by have c4 := hS.c 4 _ k4.out; go_simp⟩); simp only [lp]
  refine tkx 10 (.pointer (some ⟨w.heap.size, 1, none⟩)) zH ?_; simp only [lp]
  refine tkx 11 (.int .i64 (h : Int)) zH ?_ (hy := .inl ⟨by kernel_rfl, fun V hS => by have c1 := hS.c 1 _ k1.out; go_simp⟩); simp only [lp]
  refine tkx 12 (.int .i64 (u : Int)) zH ?_; simp only [lp]
  refine tkx 13 (.agg (keyC (kd : Int) (h : Int) id seed (u : Int)).toArray) zH ?_ (hy := .inl ⟨by kernel_rfl, fun w _ => by unfold keyC; go_simp⟩); simp only [lp]
  refine wpAnyH_ready (rs := [14]) (by kernel_rfl) (by simp) (AllReadyH.cons rfl (fun K hK => ?_) AllReadyH.nil)
  have hK' := hid hK
  clear hK
  rw [if_pos (by kernel_rfl)]
  simp only [ly1, ly2, ly3]
  refine wp_store_mid _ _ _ rfl (w.heap.size + 1) 0 (keyC (kd : Int) (h : Int) id seed (u : Int)).toArray rfl rfl (by exact hZ1.out.there 0 _ (Nat.le_refl 5)) (by exact hsk.out) (by exact keyC_one _ _ _ _ _) ?_
  generalize hXx : World.setCells _ _ _ _ = W2
  have hZ2 := hid (Holds.over (cs := keyC (kd : Int) (h : Int) id seed (u : Int)) hZ1.out rfl hXx)
  have hK2 := hid (holds_far hK1.out (by omega) hXx)
  have hB2 := hid (below_put hB1.out (by omega) hXx)
  clear hXx
  refine hK'.out _ _ (by exact hK2.out) (fun zH => ?_)
  clear hK' K
  refine wpAnyH_done (by kernel_rfl) ?_ _
  go_wp2_with fail
  exact bodyPost_ret (results_cell_row rfl _ _ (w.heap.size + 1) 39 _ (0, 0) _ rfl hZ2.out Tryz.underlying39 rfl (by exact hsk.out)) rfl ⟨rfl, hB2.out⟩

set_option maxHeartbeats 600000 in
theorem hLeft_bad (o ht : Int) (id seed : ByteArray) (nx : Int) (hok : hOk o ht id seed nx = false) (w : World) : Calls Tryz.prog 9 #[.agg #[.int .i64 o, .int .i64 ht, .string id, .string seed, .int .i64 nx]] w fun e w' => e = .returned (.int .i64 0) ∧ Below w.heap.size w w' := by
  obtain ⟨kc, hkc⟩ : ∃ kc, keyC o ht id seed nx = kc := ⟨_, rfl⟩
  have hW0' := hid (show w.alloc (.cells #[.int .i64 o, .int .i64 ht, .string id, .string seed, .int .i64 nx] 23) = w.alloc (.cells kc.toArray 23) from by rw [← hkc]; rfl)
  obtain ⟨W0, hW0⟩ : ∃ W0, w.alloc (.cells kc.toArray 23) = W0 := ⟨_, rfl⟩
  have hK0 := hid (show Holds W0 w.heap.size 23 kc from by rw [← hW0]; exact Holds.new _ _ kc.toArray)
  have hB0 := hid (show Below w.heap.size w W0 from by rw [← hW0]; exact (Below.refl _ _).alloc (Nat.le_refl _) _)
  have hCk := hid (show (Tryz.prog.info? 23).map (·.size) = some kc.length from by rw [← hkc]; exact sizeHss)
  have hmy := hid (fun W => show Calls Tryz.prog 12 #[.agg kc.toArray] W fun e w' => e = .returned (.bool (hOk o ht id seed nx)) ∧ Below W.heap.size W w' from by rw [← hkc]; exact hMay_any o ht id seed nx W)
  rw [hok] at hmy
  rw [hW0] at hW0'
  clear hW0 hkc hok
  go_enter Tryz.func9, Tryz.ntmps9
  go_wp2_with (first
    | ((with_reducible refine at_slot (some 1) ?_); refine wpList_run rfl (.pointer (some ⟨w.heap.size, 0, none⟩)) (w.alloc (.cells #[.int .i64 o, .int .i64 ht, .string id, .string seed, .int .i64 nx] 23)) (by kernel_rfl) ?_; rw [hW0'.out])
    | ((with_reducible refine at_slot (some 3) ?_); refine wpList_load_mid rfl 23 (.tmp 1) rfl w.heap.size 0 rfl kc _ (by exact h_all hK0.out) Tryz.underlying23 rfl (by exact hCk.out) ?_)
    | fail)
  refine (hmy.out _).mono ?_
  rintro e W1 ⟨rfl, hb⟩
  have hB1 := zup hb hB0
  have hK1 := zon hb hK0
  clear hb hK0 hB0
  go_wp2_with fail
  go_ret
  exact ⟨rfl, hB1.out⟩

set_option maxHeartbeats 600000 in
theorem hLeft_good (kd h q : Nat) (h5 : h ≤ 5) (hq : q ≤ 2 ^ (2 * h)) (id seed : ByteArray) (hok : hOk (kd : Int) (h : Int) id seed (q : Int) = true) (w : World) : Calls Tryz.prog 9 #[.agg #[.int .i64 (kd : Int), .int .i64 (h : Int), .string id, .string seed, .int .i64 (q : Int)]] w fun e w' => e = .returned (.int .i64 ((2 ^ (2 * h) - q : Nat) : Int)) ∧ Below w.heap.size w w' := by
  obtain ⟨kc, hkc⟩ : ∃ kc, keyC (kd : Int) (h : Int) id seed (q : Int) = kc := ⟨_, rfl⟩
  have hW0' := hid (show w.alloc (.cells #[.int .i64 (kd : Int), .int .i64 (h : Int), .string id, .string seed, .int .i64 (q : Int)] 23) = w.alloc (.cells kc.toArray 23) from by rw [← hkc]; rfl)
  obtain ⟨W0, hW0⟩ : ∃ W0, w.alloc (.cells kc.toArray 23) = W0 := ⟨_, rfl⟩
  have hK0 := hid (show Holds W0 w.heap.size 23 kc from by rw [← hW0]; exact Holds.new _ _ kc.toArray)
  have hB0 := hid (show Below w.heap.size w W0 from by rw [← hW0]; exact (Below.refl _ _).alloc (Nat.le_refl _) _)
  have hCk := hid (show (Tryz.prog.info? 23).map (·.size) = some kc.length from by rw [← hkc]; exact sizeHss)
  have hmy := hid (fun W => show Calls Tryz.prog 12 #[.agg kc.toArray] W fun e w' => e = .returned (.bool (hOk (kd : Int) (h : Int) id seed (q : Int))) ∧ Below W.heap.size W w' from by rw [← hkc]; exact hMay_any (kd : Int) (h : Int) id seed (q : Int) W)
  rw [hok] at hmy
  rw [hW0] at hW0'
  obtain ⟨R, hR⟩ : ∃ R, 2 ^ (2 * h) - q = R := ⟨_, rfl⟩
  rw [hR]
  obtain ⟨Z, hZ⟩ : ∃ Z : Int, ((2 ^ (2 * h) : Nat) : Int) = Z := ⟨_, rfl⟩
  have hZl : Z ≤ 1024 := by rw [← hZ]; have := Nat.pow_le_pow_right (show 0 < 2 by decide) (show 2 * h ≤ 10 by omega); omega
  obtain ⟨t2, ht2⟩ : ∃ t2 : Nat, 2 * h = t2 := ⟨_, rfl⟩
  have ht2w : IntKind.i64.wrap (2 * (h : Int)) = (t2 : Int) := by rw [IntWalk.i64_in _ (by omega)]; omega
  have hZw : IntKind.i64.wrap (2 ^ t2) = Z := by rw [← hZ, ht2]; exact shl_wrap10 _ (by omega)
  have hm64 : min t2 64 = t2 := by omega
  have hRw : IntKind.i64.wrap (Z - (q : Int)) = (R : Int) := by rw [IntWalk.i64_in _ (by omega)]; omega
  have k1 := hid (show kc[1]? = some (.int .i64 (h : Int)) from by rw [← hkc]; rfl)
  have k4 := hid (show kc[4]? = some (.int .i64 (q : Int)) from by rw [← hkc]; rfl)
  clear hW0 hkc hok hR hZ ht2 hq
  go_enter Tryz.func9, Tryz.ntmps9
  go_wp2_with (first
    | ((with_reducible refine at_slot (some 1) ?_); refine wpList_run rfl (.pointer (some ⟨w.heap.size, 0, none⟩)) (w.alloc (.cells #[.int .i64 (kd : Int), .int .i64 (h : Int), .string id, .string seed, .int .i64 (q : Int)] 23)) (by kernel_rfl) ?_; rw [hW0'.out])
    | ((with_reducible refine at_slot (some 3) ?_); refine wpList_load_mid rfl 23 (.tmp 1) rfl w.heap.size 0 rfl kc _ (by exact h_all hK0.out) Tryz.underlying23 rfl (by exact hCk.out) ?_)
    | fail)
  refine (hmy.out _).mono ?_
  rintro e W1 ⟨rfl, hb⟩
  have hB1 := zup hb hB0
  have hK1 := zon hb hK0
  clear hb hK0 hB0
  go_wp2_with fail
  have hb : Below W1.heap.size W1 W1.drew := (Below.refl _ _).drew
  have hK2 := zon hb hK1
  have hB2 := zup hb hB1
  clear hb hK1 hB1
  refine wp_region_held_drew (S := fun V => Holds V w.heap.size 23 kc) (by kernel_rfl) (by exact hK2.out) (fun zH => ?_)
  generalize W1.drew = W2 at *
  refine tkx 0 (.pointer (some ⟨w.heap.size, 1, none⟩)) zH ?_; simp only [lp]
  refine tkx 1 (.int .i64 (h : Int)) zH ?_ (hy := .inl ⟨by kernel_rfl, fun V hS => by have c1 := hS.c 1 _ k1.out; go_simp⟩); simp only [lp]
  refine tkx 2 (.int .i64 (t2 : Int)) zH ?_; simp only [lp]
  refine tkx 3 (.int .i64 Z) zH ?_; simp only [lp]
  refine tkx 4 (.pointer (some ⟨w.heap.size, 4, none⟩)) zH ?_; simp only [lp]
  refine tkx 5 (.int .i64 (q : Int)) zH ?_ (hy := .inl ⟨by kernel_rfl, fun V hS => by have c4 := hS.c 4 _ k4.out; go_simp⟩); simp only [lp]
  refine tkx 6 (.int .i64 (R : Int)) zH ?_; simp only [lp]
  refine tkx 7 (.int .i64 (R : Int)) zH ?_; simp only [lp]
  refine wpAnyH_done (by kernel_rfl) ?_ _
  go_wp2_with fail
  go_ret
  exact ⟨rfl, hB2.out⟩


end Go.Proofs.YtmfajekfipfjpaaGreat
