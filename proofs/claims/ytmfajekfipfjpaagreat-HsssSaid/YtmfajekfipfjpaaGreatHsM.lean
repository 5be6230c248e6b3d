/- Layer 6, the reference: HssMay, upper, lower, Left. -/
import Derived.Test.YtmfajekfipfjpaaGreatHsD
import Derived.Test.YtmfajekfipfjpaaGreatLmRq
import Derived.Test.YtmfajekfipfjpaaGreatRefTagX
set_option maxRecDepth 100000
namespace Go.Proofs.YtmfajekfipfjpaaGreat
open Go.RowKit
open Go.Lib (strCells strCells_length strCells_oneCell)
attribute [local irreducible] Sha.compress Sha.blocks Sha.sha Sha.pad

theorem hOk_low (o ht : Int) (id seed : ByteArray) (nx : Int) : hOk o ht id seed nx = (keyOk o ht id seed 0 && (decide (0 ≤ nx) && decide (nx ≤ ((2 ^ (2 * ht.toNat) : Nat) : Int)))) := by
  unfold hOk keyOk
  rw [decide_eq_true (show (0 : Int) ≤ 0 from Int.le_refl 0), decide_eq_true (show (0 : Int) ≤ ((2 ^ ht.toNat : Nat) : Int) from Int.natCast_nonneg _), Bool.and_true, Bool.and_true]
  simp only [Bool.and_assoc]
theorem keyOk_ht {o ht : Int} {id seed : ByteArray} {nx : Int} (h : keyOk o ht id seed nx = true) : 1 ≤ ht ∧ ht ≤ 5 := by
  unfold keyOk at h
  rw [Bool.and_eq_true, Bool.and_eq_true] at h
  exact of_decide_eq_true h.2.1

set_option maxHeartbeats 2000000 in
theorem rHssMay_any (o ht : Int) (id seed : ByteArray) (nx : Int) (w : World) : Calls Tryz.prog 16 #[.agg #[.int .i64 o, .int .i64 ht, .string id, .string seed, .int .i64 nx]] w fun e w' => e = .returned (.bool (hOk o ht id seed nx)) ∧ Below w.heap.size w w' := by
  rw [hOk_low]
  obtain ⟨W0, hW0⟩ : ∃ W0, w.alloc (.cells (keyC o ht id seed nx).toArray 23) = W0 := ⟨_, rfl⟩
  have hK0 := hid (show Holds W0 w.heap.size 23 (keyC o ht id seed nx) from by rw [← hW0]; exact Holds.new _ _ _)
  have hB0 := hid (show Below w.heap.size w W0 from by rw [← hW0]; exact (Below.refl _ _).alloc (Nat.le_refl _) _)
  have hW0' := hid hW0
  have hmy := hid (fun W => rLmsMay_any o ht id seed 0 W)
  clear hW0
  obtain ⟨b, hbb⟩ : ∃ b, keyOk o ht id seed 0 = b := ⟨_, rfl⟩
  have hb5 : b = true → 1 ≤ ht ∧ ht ≤ 5 := fun e => keyOk_ht (hbb.trans e)
  rw [hbb] at hmy ⊢
  clear hbb
  go_enter Tryz.func16, Tryz.ntmps16
  go_wp2_with (first
    | ((with_reducible refine at_slot (some 1) ?_); refine wpList_run rfl (.pointer (some ⟨w.heap.size, 0, none⟩)) (w.alloc (.cells (keyC o ht id seed nx).toArray 23)) (by kernel_rfl) ?_; rw [hW0'.out])
    | fail)
  cases b with
  | false =>
    have hb : Below W0.heap.size W0 W0.drew := (Below.refl _ _).drew
    have hK1 := zon hb hK0
    have hB1 := zup hb hB0
    clear hb hK0 hB0
    refine wp_region_held_drew (S := fun V => Holds V w.heap.size 23 (keyC o ht id seed nx)) (by kernel_rfl) (by exact hK1.out) (fun zH => ?_)
    generalize W0.drew = W1 at *
    refine tkx 0 (.pointer (some ⟨w.heap.size, 0, none⟩)) zH ?_; simp only [lp]
    refine tkx 1 (.int .i64 o) zH ?_ (hy := .inl ⟨by kernel_rfl, fun W hS => by have c0 := hS.c 0 _ rfl; go_simp⟩); simp only [lp]
    refine tkx 2 (.pointer (some ⟨w.heap.size, 1, none⟩)) zH ?_; simp only [lp]
    refine tkx 3 (.int .i64 ht) zH ?_ (hy := .inl ⟨by kernel_rfl, fun W hS => by have c1 := hS.c 1 _ rfl; go_simp⟩); simp only [lp]
    refine tkx 4 (.pointer (some ⟨w.heap.size, 2, none⟩)) zH ?_; simp only [lp]
    refine tkx 5 (.string id) zH ?_ (hy := .inl ⟨by kernel_rfl, fun W hS => by have c2 := hS.c 2 _ rfl; go_simp⟩); simp only [lp]
    refine tkx 6 (.pointer (some ⟨w.heap.size, 3, none⟩)) zH ?_; simp only [lp]
    refine tkx 7 (.string seed) zH ?_ (hy := .inl ⟨by kernel_rfl, fun W hS => by have c3 := hS.c 3 _ rfl; go_simp⟩); simp only [lp]
    refine tkx 8 (.agg (keyC o ht id seed 0).toArray) zH ?_ (hy := .inl ⟨by kernel_rfl, fun w _ => by unfold keyC; go_simp⟩); simp only [lp]
    refine wpAnyH_ready (rs := [9]) (by kernel_rfl) (by simp) (AllReadyH.cons rfl (fun K hK => ?_) AllReadyH.nil)
    have hK' := hid hK
    clear hK
    rw [if_pos (by kernel_rfl)]
    simp only [ly1, ly2, ly3]
    go_simp
    refine (hmy.out _).mono ?_
    rintro e W2 ⟨rfl, hb⟩
    have hK2 := zon hb hK1
    have hB2 := zup hb hB1
    clear hb hK1 hB1
    refine hK'.out _ _ (by exact hK2.out) (fun zH => ?_)
    clear hK' K
    refine tkx 10 (.bool false) zH ?_; simp only [lp]
    refine tkx 11 undef zH ?_
    refine tkx 12 undef zH ?_
    refine tkx 13 undef zH ?_; simp only [lp]
    refine tkx 14 (.bool false) zH ?_; simp only [lp]
    refine tkx 15 (.bool false) zH ?_; simp only [lp]
    refine tkx 16 undef zH ?_
    refine tkx 17 undef zH ?_
    refine tkx 18 undef zH ?_
    refine tkx 19 undef zH ?_
    refine tkx 20 undef zH ?_
    refine tkx 21 undef zH ?_
    refine tkx 22 undef zH ?_; simp only [lp]
    refine tkx 23 (.bool false) zH ?_; simp only [lp]
    refine tkx 24 (.bool false) zH ?_; simp only [lp]
    refine wpAnyH_done (by kernel_rfl) ?_ _
    go_wp2_with fail
    go_ret
    exact ⟨rfl, hB2.out⟩
  | true =>
    obtain ⟨hh1, hh5⟩ := hb5 rfl
    by_cases hp1 : 0 ≤ nx
    · have hq1 : decide (0 ≤ nx) = true := decide_eq_true hp1
      obtain ⟨Z, hZ⟩ : ∃ Z : Int, ((2 ^ (2 * ht.toNat) : Nat) : Int) = Z := ⟨_, rfl⟩
      obtain ⟨t2, ht2⟩ : ∃ t2 : Int, 2 * ht = t2 := ⟨_, rfl⟩
      have ht2w : IntKind.i64.wrap t2 = t2 := IntWalk.i64_in _ (by omega)
      have ht0 : 0 ≤ t2 := by omega
      have hZw : IntKind.i64.wrap (2 ^ t2.toNat) = Z := by rw [← hZ, show 2 * ht.toNat = t2.toNat from by omega]; exact shl_wrap10 _ (by omega)
      have hm64 : min t2.toNat 64 = t2.toNat := by omega
      by_cases hp2 : nx ≤ Z
      · have hq2 : decide (nx ≤ Z) = true := decide_eq_true hp2
        have hb : Below W0.heap.size W0 W0.drew := (Below.refl _ _).drew
        have hK1 := zon hb hK0
        have hB1 := zup hb hB0
        clear hb hK0 hB0
        refine wp_region_held_drew (S := fun V => Holds V w.heap.size 23 (keyC o ht id seed nx)) (by kernel_rfl) (by exact hK1.out) (fun zH => ?_)
        generalize W0.drew = W1 at *
        refine tkx 0 (.pointer (some ⟨w.heap.size, 0, none⟩)) zH ?_; simp only [lp]
        refine tkx 1 (.int .i64 o) zH ?_ (hy := .inl ⟨by kernel_rfl, fun W hS => by have c0 := hS.c 0 _ rfl; go_simp⟩); simp only [lp]
        refine tkx 2 (.pointer (some ⟨w.heap.size, 1, none⟩)) zH ?_; simp only [lp]
        refine tkx 3 (.int .i64 ht) zH ?_ (hy := .inl ⟨by kernel_rfl, fun W hS => by have c1 := hS.c 1 _ rfl; go_simp⟩); simp only [lp]
        refine tkx 4 (.pointer (some ⟨w.heap.size, 2, none⟩)) zH ?_; simp only [lp]
        refine tkx 5 (.string id) zH ?_ (hy := .inl ⟨by kernel_rfl, fun W hS => by have c2 := hS.c 2 _ rfl; go_simp⟩); simp only [lp]
        refine tkx 6 (.pointer (some ⟨w.heap.size, 3, none⟩)) zH ?_; simp only [lp]
        refine tkx 7 (.string seed) zH ?_ (hy := .inl ⟨by kernel_rfl, fun W hS => by have c3 := hS.c 3 _ rfl; go_simp⟩); simp only [lp]
        refine tkx 8 (.agg (keyC o ht id seed 0).toArray) zH ?_ (hy := .inl ⟨by kernel_rfl, fun w _ => by unfold keyC; go_simp⟩); simp only [lp]
        refine wpAnyH_ready (rs := [9]) (by kernel_rfl) (by simp) (AllReadyH.cons rfl (fun K hK => ?_) AllReadyH.nil)
        have hK' := hid hK
        clear hK
        rw [if_pos (by kernel_rfl)]
        simp only [ly1, ly2, ly3]
        go_simp
        refine (hmy.out _).mono ?_
        rintro e W2 ⟨rfl, hb⟩
        have hK2 := zon hb hK1
        have hB2 := zup hb hB1
        clear hb hK1 hB1
        refine hK'.out _ _ (by exact hK2.out) (fun zH => ?_)
        clear hK' K
        refine tkx 10 (.bool true) zH ?_; simp only [lp]
        refine tkx 11 (.pointer (some ⟨w.heap.size, 4, none⟩)) zH ?_; simp only [lp]
        refine tkx 12 (.int .i64 nx) zH ?_ (hy := .inl ⟨by kernel_rfl, fun W hS => by have c4 := hS.c 4 _ rfl; go_simp⟩); simp only [lp]
        refine tkx 13 (.bool true) zH ?_; simp only [lp]
        refine tkx 14 (.bool true) zH ?_; simp only [lp]
        refine tkx 15 (.bool true) zH ?_; simp only [lp]
        refine tkx 16 (.pointer (some ⟨w.heap.size, 4, none⟩)) zH ?_; simp only [lp]
        refine tkx 17 (.int .i64 nx) zH ?_ (hy := .inl ⟨by kernel_rfl, fun W hS => by have c4 := hS.c 4 _ rfl; go_simp⟩); simp only [lp]
        refine tkx 18 (.pointer (some ⟨w.heap.size, 1, none⟩)) zH ?_; simp only [lp]
        refine tkx 19 (.int .i64 ht) zH ?_ (hy := .inl ⟨by kernel_rfl, fun W hS => by have c1 := hS.c 1 _ rfl; go_simp⟩); simp only [lp]
        refine tkx 20 (.int .i64 t2) zH ?_; simp only [lp]
        refine tkx 21 (.int .i64 Z) zH ?_; simp only [lp]
        refine tkx 22 (.bool true) zH ?_; simp only [lp]
        refine tkx 23 (.bool true) zH ?_; simp only [lp]
        refine tkx 24 (.bool true) zH ?_; simp only [lp]
        refine wpAnyH_done (by kernel_rfl) ?_ _
        go_wp2_with fail
        go_ret
        exact ⟨rfl, hB2.out⟩
      · have hq2 : decide (nx ≤ Z) = false := decide_eq_false hp2
        have hb : Below W0.heap.size W0 W0.drew := (Below.refl _ _).drew
        have hK1 := zon hb hK0
        have hB1 := zup hb hB0
        clear hb hK0 hB0
        refine wp_region_held_drew (S := fun V => Holds V w.heap.size 23 (keyC o ht id seed nx)) (by kernel_rfl) (by exact hK1.out) (fun zH => ?_)
        generalize W0.drew = W1 at *
        refine tkx 0 (.pointer (some ⟨w.heap.size, 0, none⟩)) zH ?_; simp only [lp]
        refine tkx 1 (.int .i64 o) zH ?_ (hy := .inl ⟨by kernel_rfl, fun W hS => by have c0 := hS.c 0 _ rfl; go_simp⟩); simp only [lp]
        refine tkx 2 (.pointer (some ⟨w.heap.size, 1, none⟩)) zH ?_; simp only [lp]
        refine tkx 3 (.int .i64 ht) zH ?_ (hy := .inl ⟨by kernel_rfl, fun W hS => by have c1 := hS.c 1 _ rfl; go_simp⟩); simp only [lp]
        refine tkx 4 (.pointer (some ⟨w.heap.size, 2, none⟩)) zH ?_; simp only [lp]
        refine tkx 5 (.string id) zH ?_ (hy := .inl ⟨by kernel_rfl, fun W hS => by have c2 := hS.c 2 _ rfl; go_simp⟩); simp only [lp]
        refine tkx 6 (.pointer (some ⟨w.heap.size, 3, none⟩)) zH ?_; simp only [lp]
        refine tkx 7 (.string seed) zH ?_ (hy := .inl ⟨by kernel_rfl, fun W hS => by have c3 := hS.c 3 _ rfl; go_simp⟩); simp only [lp]
        refine tkx 8 (.agg (keyC o ht id seed 0).toArray) zH ?_ (hy := .inl ⟨by kernel_rfl, fun w _ => by unfold keyC; go_simp⟩); simp only [lp]
        refine wpAnyH_ready (rs := [9]) (by kernel_rfl) (by simp) (AllReadyH.cons rfl (fun K hK => ?_) AllReadyH.nil)
        have hK' := hid hK
        clear hK
        rw [if_pos (by kernel_rfl)]
        simp only [ly1, ly2, ly3]
        go_simp
        refine (hmy.out _).mono ?_
        rintro e W2 ⟨rfl, hb⟩
        have hK2 := zon hb hK1
        have hB2 := zup hb hB1
        clear hb hK1 hB1
        refine hK'.out _ _ (by exact hK2.out) (fun zH => ?_)
        clear hK' K
        refine tkx 10 (.bool true) zH ?_; simp only [lp]
        refine tkx 11 (.pointer (some ⟨w.heap.size, 4, none⟩)) zH ?_; simp only [lp]
        refine tkx 12 (.int .i64 nx) zH ?_ (hy := .inl ⟨by kernel_rfl, fun W hS => by have c4 := hS.c 4 _ rfl; go_simp⟩); simp only [lp]
        refine tkx 13 (.bool true) zH ?_; simp only [lp]
        refine tkx 14 (.bool true) zH ?_; simp only [lp]
        refine tkx 15 (.bool true) zH ?_; simp only [lp]
        refine tkx 16 (.pointer (some ⟨w.heap.size, 4, none⟩)) zH ?_; simp only [lp]
        refine tkx 17 (.int .i64 nx) zH ?_ (hy := .inl ⟨by kernel_rfl, fun W hS => by have c4 := hS.c 4 _ rfl; go_simp⟩); simp only [lp]
        refine tkx 18 (.pointer (some ⟨w.heap.size, 1, none⟩)) zH ?_; simp only [lp]
        refine tkx 19 (.int .i64 ht) zH ?_ (hy := .inl ⟨by kernel_rfl, fun W hS => by have c1 := hS.c 1 _ rfl; go_simp⟩); simp only [lp]
        refine tkx 20 (.int .i64 t2) zH ?_; simp only [lp]
        refine tkx 21 (.int .i64 Z) zH ?_; simp only [lp]
        refine tkx 22 (.bool false) zH ?_; simp only [lp]
        refine tkx 23 (.bool false) zH ?_; simp only [lp]
        refine tkx 24 (.bool false) zH ?_; simp only [lp]
        refine wpAnyH_done (by kernel_rfl) ?_ _
        go_wp2_with fail
        go_ret
        exact ⟨rfl, hB2.out⟩
    · have hq1 : decide (0 ≤ nx) = false := decide_eq_false hp1
      have hb : Below W0.heap.size W0 W0.drew := (Below.refl _ _).drew
      have hK1 := zon hb hK0
      have hB1 := zup hb hB0
      clear hb hK0 hB0
      refine wp_region_held_drew (S := fun V => Holds V w.heap.size 23 (keyC o ht id seed nx)) (by kernel_rfl) (by exact hK1.out) (fun zH => ?_)
      generalize W0.drew = W1 at *
      refine tkx 0 (.pointer (some ⟨w.heap.size, 0, none⟩)) zH ?_; simp only [lp]
      refine tkx 1 (.int .i64 o) zH ?_ (hy := .inl ⟨by kernel_rfl, fun W hS => by have c0 := hS.c 0 _ rfl; go_simp⟩); simp only [lp]
      refine tkx 2 (.pointer (some ⟨w.heap.size, 1, none⟩)) zH ?_; simp only [lp]
      refine tkx 3 (.int .i64 ht) zH ?_ (hy := .inl ⟨by kernel_rfl, fun W hS => by have c1 := hS.c 1 _ rfl; go_simp⟩); simp only [lp]
      refine tkx 4 (.pointer (some ⟨w.heap.size, 2, none⟩)) zH ?_; simp only [lp]
      refine tkx 5 (.string id) zH ?_ (hy := .inl ⟨by kernel_rfl, fun W hS => by have c2 := hS.c 2 _ rfl; go_simp⟩); simp only [lp]
      refine tkx 6 (.pointer (some ⟨w.heap.size, 3, none⟩)) zH ?_; simp only [lp]
      refine tkx 7 (.string seed) zH ?_ (hy := .inl ⟨by kernel_rfl, fun W hS => by have c3 := hS.c 3 _ rfl; go_simp⟩); simp only [lp]
      refine tkx 8 (.agg (keyC o ht id seed 0).toArray) zH ?_ (hy := .inl ⟨by kernel_rfl, fun w _ => by unfold keyC; go_simp⟩); simp only [lp]
      refine wpAnyH_ready (rs := [9]) (by kernel_rfl) (by simp) (AllReadyH.cons rfl (fun K hK => ?_) AllReadyH.nil)
      have hK' := hid hK
      clear hK
      rw [if_pos (by kernel_rfl)]
      simp only [ly1, ly2, ly3]
      go_simp
      refine (hmy.out _).mono ?_
      rintro e W2 ⟨rfl, hb⟩
      have hK2 := zon hb hK1
      have hB2 := zup hb hB1
      clear hb hK1 hB1
      refine hK'.out _ _ (by exact hK2.out) (fun zH => ?_)
      clear hK' K
      refine tkx 10 (.bool true) zH ?_; simp only [lp]
      refine tkx 11 (.pointer (some ⟨w.heap.size, 4, none⟩)) zH ?_; simp only [lp]
      refine tkx 12 (.int .i64 nx) zH ?_ (hy := .inl ⟨by kernel_rfl, fun W hS => by have c4 := hS.c 4 _ rfl; go_simp⟩); simp only [lp]
      refine tkx 13 (.bool false) zH ?_; simp only [lp]
      refine tkx 14 (.bool false) zH ?_; simp only [lp]
      refine tkx 15 (.bool false) zH ?_; simp only [lp]
      refine tkx 16 undef zH ?_
      refine tkx 17 undef zH ?_
      refine tkx 18 undef zH ?_
      refine tkx 19 undef zH ?_
      refine tkx 20 undef zH ?_
      refine tkx 21 undef zH ?_
      refine tkx 22 undef zH ?_; simp only [lp]
      refine tkx 23 (.bool false) zH ?_; simp only [lp]
      refine tkx 24 (.bool false) zH ?_; simp only [lp]
      refine wpAnyH_done (by kernel_rfl) ?_ _
      go_wp2_with fail
      go_ret
      exact ⟨rfl, hB2.out⟩

set_option maxHeartbeats 1000000 in
theorem rUpper_any (kd h q : Nat) (h5 : h ≤ 5) (hq : q ≤ 2000) (id seed : ByteArray) (w : World) : Calls Tryz.prog 17 #[.agg #[.int .i64 (kd : Int), .int .i64 (h : Int), .string id, .string seed, .int .i64 (q : Int)]] w fun e w' => e = .returned (.agg (keyC (kd : Int) (h : Int) id seed ((q / 2 ^ h : Nat) : Int)).toArray) ∧ Below w.heap.size w w' := by
  obtain ⟨kc, hkc⟩ : ∃ kc, keyC (kd : Int) (h : Int) id seed (q : Int) = kc := ⟨_, rfl⟩
  have hA' := hid (show w.alloc (.cells #[.int .i64 (kd : Int), .int .i64 (h : Int), .string id, .string seed, .int .i64 (q : Int)] 23) = w.alloc (.cells kc.toArray 23) from by rw [← hkc]; rfl)
  obtain ⟨WA, hWA⟩ : ∃ WA, w.alloc (.cells kc.toArray 23) = WA := ⟨_, rfl⟩
  rw [hWA] at hA'
  have z1 : WA.heap.size = w.heap.size + 1 := by rw [← hWA]; simp
  obtain ⟨W0, hW0⟩ : ∃ W0, WA.alloc (.cells zk.toArray 39) = W0 := ⟨_, rfl⟩
  have hK0 := hid (show Holds W0 w.heap.size 23 kc from by rw [← hW0, ← hWA]; exact (Holds.new w 23 kc.toArray).alloc _)
  have hZ0 := hid (show Holds W0 (w.heap.size + 1) 39 zk from by rw [← hW0, ← z1]; exact Holds.new _ 39 zk.toArray)
  have hB0 := hid (show Below w.heap.size w W0 from by rw [← hW0, ← hWA]; exact ((Below.refl _ _).alloc (Nat.le_refl _) _).alloc (by simp) _)
  have hz := hid z1
  have hW0' := hid hW0
  have hsk := hid sizeKey
  have k0 := hid (show kc[0]? = some (.int .i64 (kd : Int)) from by rw [← hkc]; rfl)
  have k1 := hid (show kc[1]? = some (.int .i64 (h : Int)) from by rw [← hkc]; rfl)
  have k2 := hid (show kc[2]? = some (.string id) from by rw [← hkc]; rfl)
  have k3 := hid (show kc[3]? = some (.string seed) from by rw [← hkc]; rfl)
  have k4 := hid (show kc[4]? = some (.int .i64 (q : Int)) from by rw [← hkc]; rfl)
  obtain ⟨u, hu⟩ : ∃ u, q / 2 ^ h = u := ⟨_, rfl⟩
  rw [hu]
  have hue : (q : Int) / 2 ^ h = (u : Int) := by rw [← hu]; simp
  have huw : IntKind.i64.wrap (u : Int) = (u : Int) := IntWalk.i64_in _ (by have := Nat.div_le_self q (2 ^ h); omega)
  have hm64 : min h 64 = h := by omega
  clear hW0 hWA z1 hkc hu
  go_enter Tryz.func17, Tryz.ntmps17
  go_wp2_with (first
    | ((with_reducible refine at_slot (some 1) ?_); refine wpList_run rfl (.pointer (some ⟨w.heap.size, 0, none⟩)) (w.alloc (.cells #[.int .i64 (kd : Int), .int .i64 (h : Int), .string id, .string seed, .int .i64 (q : Int)] 23)) (by kernel_rfl) ?_; rw [hA'.out])
    | ((with_reducible refine at_slot (some 2) ?_); refine wpList_run rfl (.pointer (some ⟨WA.heap.size, 0, none⟩)) (WA.alloc (.cells zk.toArray 39)) (by kernel_rfl) ?_; rw [hW0'.out, hz.out])
    | fail)
  have hb : Below W0.heap.size W0 W0.drew := (Below.refl _ _).drew
  have hK1 := zon hb hK0
  have hZ1 := zon hb hZ0
  have hB1 := zup hb hB0
  clear hb hK0 hZ0 hB0
  refine wp_region_held_drew (S := fun V => Holds V w.heap.size 23 kc) (by kernel_rfl) (by exact hK1.out) (fun zH => ?_)
  generalize W0.drew = W1 at *
  refine tkx 0 (.pointer (some ⟨w.heap.size, 0, none⟩)) zH ?_; simp only [lp]
  refine tkx 1 (.int .i64 (kd : Int)) zH ?_ (hy := .inl ⟨by kernel_rfl, fun V hS => by have c0 := hS.c 0 _ k0.out; go_simp⟩); simp only [lp]
  refine tkx 2 (.pointer (some ⟨w.heap.size, 1, none⟩)) zH ?_; simp only [lp]
  refine tkx 3 (.int .i64 (h : Int)) zH ?_ (hy := .inl ⟨by kernel_rfl, fun V hS => by have c1 := hS.c 1 _ k1.out; go_simp⟩); simp only [lp]
  refine tkx 4 (.pointer (some ⟨w.heap.size, 2, none⟩)) zH ?_; simp only [lp]
  refine tkx 5 (.string id) zH ?_ (hy := .inl ⟨by kernel_rfl, fun V hS => by have c2 := hS.c 2 _ k2.out; go_simp⟩); simp only [lp]
  refine tkx 6 (.pointer (some ⟨w.heap.size, 3, none⟩)) zH ?_; simp only [lp]
  refine tkx 7 (.string seed) zH ?_ (hy := .inl ⟨by kernel_rfl, fun V hS => by have c3 := hS.c 3 _ k3.out; go_simp⟩); simp only [lp]
  refine tkx 8 (.pointer (some ⟨w.heap.size, 4, none⟩)) zH ?_; simp only [lp]
  refine tkx 9 (.int .i64 (q : Int)) zH ?_ (hy := .inl ⟨by kernel_rfl, fun V hS => by have c4 := hS.c 4 _ k4.out; go_simp⟩); simp only [lp]
  refine tkx 10 (.pointer (some ⟨w.heap.size, 1, none⟩)) zH ?_; simp only [lp]
  refine tkx 11 (.int .i64 (h : Int)) zH ?_ (hy := .inl ⟨by kernel_rfl, fun V hS => by have c1 := hS.c 1 _ k1.out; go_simp⟩); simp only [lp]
  refine tkx 12 (.int .i64 (u : Int)) zH ?_; simp only [lp]
  refine tkx 13 (.agg (keyC (kd : Int) (h : Int) id seed (u : Int)).toArray) zH ?_ (hy := .inl ⟨by kernel_rfl, fun w _ => by unfold keyC; go_simp⟩); simp only [lp]
  refine wpAnyH_ready (rs := [14]) (by kernel_rfl) (by simp) (AllReadyH.cons rfl (fun K hK => ?_) AllReadyH.nil)
  have hK' := hid hK
  clear hK
  rw [if_pos (by kernel_rfl)]
  simp only [ly1, ly2, ly3]
  refine wp_store_mid _ _ _ rfl (w.heap.size + 1) 0 (keyC (kd : Int) (h : Int) id seed (u : Int)).toArray rfl rfl (by exact hZ1.out.there 0 _ (Nat.le_refl 5)) (by exact hsk.out) (by exact keyC_one _ _ _ _ _) ?_
  generalize hXx : World.setCells _ _ _ _ = W2
  have hZ2 := hid (Holds.over (cs := keyC (kd : Int) (h : Int) id seed (u : Int)) hZ1.out rfl hXx)
  have hK2 := hid (holds_far hK1.out (by omega) hXx)
  have hB2 := hid (below_put hB1.out (by omega) hXx)
  clear hXx
  refine hK'.out _ _ (by exact hK2.out) (fun zH => ?_)
  clear hK' K
  refine wpAnyH_done (by kernel_rfl) ?_ _
  go_wp2_with fail
  exact bodyPost_ret (results_cell_row rfl _ _ (w.heap.size + 1) 39 _ (0, 0) _ rfl hZ2.out Tryz.underlying39 rfl (by exact hsk.out)) rfl ⟨rfl, hB2.out⟩

set_option maxHeartbeats 600000 in
theorem rLeft_bad (o ht : Int) (id seed : ByteArray) (nx : Int) (hok : hOk o ht id seed nx = false) (w : World) : Calls Tryz.prog 10 #[.agg #[.int .i64 o, .int .i64 ht, .string id, .string seed, .int .i64 nx]] w fun e w' => e = .returned (.int .i64 0) ∧ Below w.heap.size w w' := by
  obtain ⟨kc, hkc⟩ : ∃ kc, keyC o ht id seed nx = kc := ⟨_, rfl⟩
  have hW0' := hid (show w.alloc (.cells #[.int .i64 o, .int .i64 ht, .string id, .string seed, .int .i64 nx] 23) = w.alloc (.cells kc.toArray 23) from by rw [← hkc]; rfl)
  obtain ⟨W0, hW0⟩ : ∃ W0, w.alloc (.cells kc.toArray 23) = W0 := ⟨_, rfl⟩
  have hK0 := hid (show Holds W0 w.heap.size 23 kc from by rw [← hW0]; exact Holds.new _ _ kc.toArray)
  have hB0 := hid (show Below w.heap.size w W0 from by rw [← hW0]; exact (Below.refl _ _).alloc (Nat.le_refl _) _)
  have hCk := hid (show (Tryz.prog.info? 23).map (·.size) = some kc.length from by rw [← hkc]; exact sizeHss)
  have hmy := hid (fun W => show Calls Tryz.prog 16 #[.agg kc.toArray] W fun e w' => e = .returned (.bool (hOk o ht id seed nx)) ∧ Below W.heap.size W w' from by rw [← hkc]; exact rHssMay_any o ht id seed nx W)
  rw [hok] at hmy
  rw [hW0] at hW0'
  clear hW0 hkc hok
  go_enter Tryz.func10, Tryz.ntmps10
  go_wp2_with (first
    | ((with_reducible refine at_slot (some 1) ?_); refine wpList_run rfl (.pointer (some ⟨w.heap.size, 0, none⟩)) (w.alloc (.cells #[.int .i64 o, .int .i64 ht, .string id, .string seed, .int .i64 nx] 23)) (by kernel_rfl) ?_; rw [hW0'.out])
    | ((with_reducible refine at_slot (some 3) ?_); refine wpList_load_mid rfl 23 (.tmp 1) rfl w.heap.size 0 rfl kc _ (by exact h_all hK0.out) Tryz.underlying23 rfl (by exact hCk.out) ?_)
    | fail)
  refine (hmy.out _).mono ?_
  rintro e W1 ⟨rfl, hb⟩
  have hB1 := zup hb hB0
  have hK1 := zon hb hK0
  clear hb hK0 hB0
  go_wp2_with fail
  go_ret
  exact ⟨rfl, hB1.out⟩

set_option maxHeartbeats 600000 in
theorem rLeft_good (kd h q : Nat) (h5 : h ≤ 5) (hq : q ≤ 2 ^ (2 * h)) (id seed : ByteArray) (hok : hOk (kd : Int) (h : Int) id seed (q : Int) = true) (w : World) : Calls Tryz.prog 10 #[.agg #[.int .i64 (kd : Int), .int .i64 (h : Int), .string id, .string seed, .int .i64 (q : Int)]] w fun e w' => e = .returned (.int .i64 ((2 ^ (2 * h) - q : Nat) : Int)) ∧ Below w.heap.size w w' := by
  obtain ⟨kc, hkc⟩ : ∃ kc, keyC (kd : Int) (h : Int) id seed (q : Int) = kc := ⟨_, rfl⟩
  have hW0' := hid (show w.alloc (.cells #[.int .i64 (kd : Int), .int .i64 (h : Int), .string id, .string seed, .int .i64 (q : Int)] 23) = w.alloc (.cells kc.toArray 23) from by rw [← hkc]; rfl)
  obtain ⟨W0, hW0⟩ : ∃ W0, w.alloc (.cells kc.toArray 23) = W0 := ⟨_, rfl⟩
  have hK0 := hid (show Holds W0 w.heap.size 23 kc from by rw [← hW0]; exact Holds.new _ _ kc.toArray)
  have hB0 := hid (show Below w.heap.size w W0 from by rw [← hW0]; exact (Below.refl _ _).alloc (Nat.le_refl _) _)
  have hCk := hid (show (Tryz.prog.info? 23).map (·.size) = some kc.length from by rw [← hkc]; exact sizeHss)
  have hmy := hid (fun W => show Calls Tryz.prog 16 #[.agg kc.toArray] W fun e w' => e = .returned (.bool (hOk (kd : Int) (h : Int) id seed (q : Int))) ∧ Below W.heap.size W w' from by rw [← hkc]; exact rHssMay_any (kd : Int) (h : Int) id seed (q : Int) W)
  rw [hok] at hmy
  rw [hW0] at hW0'
  obtain ⟨R, hR⟩ : ∃ R, 2 ^ (2 * h) - q = R := ⟨_, rfl⟩
  rw [hR]
  obtain ⟨Z, hZ⟩ : ∃ Z : Int, ((2 ^ (2 * h) : Nat) : Int) = Z := ⟨_, rfl⟩
  have hZl : Z ≤ 1024 := by rw [← hZ]; have := Nat.pow_le_pow_right (show 0 < 2 by decide) (show 2 * h ≤ 10 by omega); omega
  obtain ⟨t2, ht2⟩ : ∃ t2 : Nat, 2 * h = t2 := ⟨_, rfl⟩
  have ht2w : IntKind.i64.wrap (2 * (h : Int)) = (t2 : Int) := by rw [IntWalk.i64_in _ (by omega)]; omega
  have hZw : IntKind.i64.wrap (2 ^ t2) = Z := by rw [← hZ, ht2]; exact shl_wrap10 _ (by omega)
  have hm64 : min t2 64 = t2 := by omega
  have hRw : IntKind.i64.wrap (Z - (q : Int)) = (R : Int) := by rw [IntWalk.i64_in _ (by omega)]; omega
  have k1 := hid (show kc[1]? = some (.int .i64 (h : Int)) from by rw [← hkc]; rfl)
  have k4 := hid (show kc[4]? = some (.int .i64 (q : Int)) from by rw [← hkc]; rfl)
  clear hW0 hkc hok hR hZ ht2 hq
  go_enter Tryz.func10, Tryz.ntmps10
  go_wp2_with (first
    | ((with_reducible refine at_slot (some 1) ?_); refine wpList_run rfl (.pointer (some ⟨w.heap.size, 0, none⟩)) (w.alloc (.cells #[.int .i64 (kd : Int), .int .i64 (h : Int), .string id, .string seed, .int .i64 (q : Int)] 23)) (by kernel_rfl) ?_; rw [hW0'.out])
    | ((with_reducible refine at_slot (some 3) ?_); refine wpList_load_mid rfl 23 (.tmp 1) rfl w.heap.size 0 rfl kc _ (by exact h_all hK0.out) Tryz.underlying23 rfl (by exact hCk.out) ?_)
    | fail)
  refine (hmy.out _).mono ?_
  rintro e W1 ⟨rfl, hb⟩
  have hB1 := zup hb hB0
  have hK1 := zon hb hK0
  clear hb hK0 hB0
  go_wp2_with fail
  have hb : Below W1.heap.size W1 W1.drew := (Below.refl _ _).drew
  have hK2 := zon hb hK1
  have hB2 := zup hb hB1
  clear hb hK1 hB1
  refine wp_region_held_drew (S := fun V => Holds V w.heap.size 23 kc) (by kernel_rfl) (by exact hK2.out) (fun zH => ?_)
  generalize W1.drew = W2 at *
  refine tkx 0 (.pointer (some ⟨w.heap.size, 1, none⟩)) zH ?_; simp only [lp]
  refine tkx 1 (.int .i64 (h : Int)) zH ?_ (hy := .inl ⟨by kernel_rfl, fun V hS => by have c1 := hS.c 1 _ k1.out; go_simp⟩); simp only [lp]
  refine tkx 2 (.int .i64 (t2 : Int)) zH ?_; simp only [lp]
  refine tkx 3 (.int .i64 Z) zH ?_; simp only [lp]
  refine tkx 4 (.pointer (some ⟨w.heap.size, 4, none⟩)) zH ?_; simp only [lp]
  refine tkx 5 (.int .i64 (q : Int)) zH ?_ (hy := .inl ⟨by kernel_rfl, fun V hS => by have c4 := hS.c 4 _ k4.out; go_simp⟩); simp only [lp]
  refine tkx 6 (.int .i64 (R : Int)) zH ?_; simp only [lp]
  refine tkx 7 (.int .i64 (R : Int)) zH ?_; simp only [lp]
  refine wpAnyH_done (by kernel_rfl) ?_ _
  go_wp2_with fail
  go_ret
  exact ⟨rfl, hB2.out⟩

theorem rTag3_any (t : Nat) (ht : t ≤ 4) (id seed : ByteArray) (u : Nat) (hi : id.size = 16) (hs : seed.size = 32) (n : Nat) (w : World) :
    Calls Tryz.prog 73 #[.int .i64 (t : Int), .slice (some ⟨w.heap.size, 0, none⟩) 3 n] (w.alloc (.cells #[.string id, .string seed, .string (be 4 u)] 9)) fun e w' => e = .returned (.tuple #[.agg (byteCells (lowH t id seed u)).toArray, .int .i64 0]) ∧ Below w.heap.size w w' := by
  have hX := Texts.new w [id, seed, be 4 u] #[.string id, .string seed, .string (be 4 u)] rfl 3 rfl 9
  have hz : ∀ s ∈ [id, seed, be 4 u], s.size ≤ 140737488351232 := by
    intro s h
    simp at h
    rcases h with rfl | rfl | rfl
    · omega
    · omega
    · rw [be_size]; omega
  have hm : tagMay (t : Int) [id, seed, be 4 u] = true := by
    unfold tagMay
    refine decide_eq_true ⟨by omega, by omega, ?_⟩
    simp only [totS]
    rw [be_size]
    omega
  refine (refTag_any (t : Int) _ 3 n _ _ hX (by decide) hz).mono ?_
  rintro e w' ⟨rfl, hb⟩
  have hb0 : Below w.heap.size w (w.alloc (.cells #[.string id, .string seed, .string (be 4 u)] 9)) := (Below.refl _ _).alloc (Nat.le_refl _) _
  refine ⟨?_, hb0.trans (hb.mono hb0.size)⟩
  unfold tagAns
  rw [if_pos hm]
  rfl

set_option maxHeartbeats 1000000 in
theorem rOf_any (t : Nat) (ht : t ≤ 4) (id seed : ByteArray) (u : Nat) (hi : id.size = 16) (hs : seed.size = 32) (w : World) :
    Calls Tryz.prog 46 #[.int .i64 (t : Int), .string id, .string seed, .string (be 4 u)] w fun e w' => e = .returned (.agg (byteCells (lowH t id seed u)).toArray) ∧ Below w.heap.size w w' := by
  have hT := hid (fun n W => rTag3_any t ht id seed u hi hs n W)
  obtain ⟨l, hl⟩ : ∃ l, lowH t id seed u = l := ⟨_, rfl⟩
  have l32 : l.length = 32 := by rw [← hl]; exact lowH_len _ _ _ _
  rw [hl] at hT ⊢
  have hC := hid (hash_cells l l32)
  have hC2 := hid (show (Tryz.prog.info? 60).map (·.size) = some (byteCells l).length from by have := hC.out.size; rwa [List.size_toArray] at this)
  obtain ⟨bu, hbu⟩ : ∃ b, be 4 u = b := ⟨_, rfl⟩
  rw [hbu] at hT ⊢
  obtain ⟨W0, hW0⟩ : ∃ W0, w.alloc (.cells z32 60) = W0 := ⟨_, rfl⟩
  have hZ0 := hid (show Holds W0 w.heap.size 60 z32.toList from by rw [← hW0]; exact Holds.new _ _ _)
  have hB0 := hid (show Below w.heap.size w W0 from by rw [← hW0]; exact (Below.refl _ _).alloc (Nat.le_refl _) _)
  have hW0' := hid hW0
  clear hW0 hl l32 hbu hi hs
  go_enter Tryz.func46, Tryz.ntmps46
  go_wp2_with (first
    | ((with_reducible refine at_slot (some 8) ?_); refine wpList_run rfl (.pointer (some ⟨w.heap.size, 0, none⟩)) (w.alloc (.cells z32 60)) (by kernel_rfl) ?_; rw [hW0'.out])
    | fail)
  refine (hT.out _ W0).mono ?_
  rintro e W1 ⟨rfl, hb⟩
  have hZ1 := zon hb hZ0
  have hB1 := zup hb hB0
  clear hb hZ0 hB0
  try (rename_i hKK; refine hKK _ _ ?_; clear hKK)
  go_wp2_with (first
    | ((with_reducible refine at_slot (some 9) ?_); refine wpList_run rfl (.pointer (some ⟨W1.heap.size, 0, none⟩)) (W1.alloc (.cells z32 60)) (by kernel_rfl) ?_)
    | ((with_reducible refine at_slot none ?_); refine wpList_store_mid rfl 60 (.tmp 9) (.tmp 18) rfl W1.heap.size 0 (byteCells l).toArray rfl rfl (by exact hC.out.there W1) (by exact hC.out.size) (by exact hC.out.one) ?_; generalize hW : World.setCells _ _ _ _ = W2; obtain ⟨hN, hb⟩ := hC.out.new hW; have hZ2 := zon hb hZ1; have hB2 := zup hb hB1; have hX2 := hid hN; clear hb hZ1 hB1 hN; clear hW)
    | ((with_reducible refine at_slot (some 20) ?_); refine wpList_load_mid rfl 60 (.tmp 9) rfl W1.heap.size 0 rfl (byteCells l) _ (by exact h_all hX2.out) Tryz.underlying60 rfl (by exact hC2.out) ?_)
    | ((with_reducible refine at_slot none ?_); refine wpList_store_mid rfl 60 (.tmp 8) (.tmp 20) rfl w.heap.size 0 (byteCells l).toArray rfl rfl (by exact hZ2.out.there 0 _ (by rw [List.size_toArray, hC.out.len]; decide)) (by exact hC.out.size) (by exact hC.out.one) ?_; generalize hW9 : World.setCells _ _ _ _ = W9; have hZ9 := hid (hZ2.out.over (by rw [hC.out.len]; rfl) hW9); have hB9 := hid (below_put hB2.out (Nat.le_refl _) hW9); clear hW9)
    | fail)
  exact bodyPost_ret (results_cell_row rfl _ _ w.heap.size 60 _ (0, 0) _ rfl hZ9.out Tryz.underlying60 rfl (by exact hC.out.size)) rfl ⟨rfl, hB9.out⟩

theorem hb_take16 (l : List UInt8) (hl : l.length = 32) : (txt l).extract 0 16 = txt (l.take 16) := by
  refine ByteArray.ext (Array.toList_inj.1 ?_)
  rw [cut_mid, List.drop_zero, txt_list, txt_list]
set_option maxHeartbeats 2000000 in
theorem rLower_any (kd h q : Nat) (h5 : h ≤ 5) (hq : q ≤ 1024) (id seed : ByteArray) (hi16 : id.size = 16) (hs32 : seed.size = 32) (w : World) : Calls Tryz.prog 23 #[.agg #[.int .i64 (kd : Int), .int .i64 (h : Int), .string id, .string seed, .int .i64 (q : Int)]] w fun e w' => e = .returned (.agg (keyC (kd : Int) (h : Int) (lowId id seed (q / 2 ^ h)) (lowSeed id seed (q / 2 ^ h)) ((q % 2 ^ h : Nat) : Int)).toArray) ∧ Below w.heap.size w w' := by
  obtain ⟨kc, hkc⟩ : ∃ kc, keyC (kd : Int) (h : Int) id seed (q : Int) = kc := ⟨_, rfl⟩
  have hA' := hid (show w.alloc (.cells #[.int .i64 (kd : Int), .int .i64 (h : Int), .string id, .string seed, .int .i64 (q : Int)] 23) = w.alloc (.cells kc.toArray 23) from by rw [← hkc]; rfl)
  obtain ⟨WA, hWA⟩ : ∃ WA, w.alloc (.cells kc.toArray 23) = WA := ⟨_, rfl⟩
  rw [hWA] at hA'
  have z1 : WA.heap.size = w.heap.size + 1 := by rw [← hWA]; simp
  obtain ⟨W0, hW0⟩ : ∃ W0, WA.alloc (.cells zk.toArray 39) = W0 := ⟨_, rfl⟩
  have hK0 := hid (show Holds W0 w.heap.size 23 kc from by rw [← hW0, ← hWA]; exact (Holds.new w 23 kc.toArray).alloc _)
  have hZ0 := hid (show Holds W0 (w.heap.size + 1) 39 zk from by rw [← hW0, ← z1]; exact Holds.new _ 39 zk.toArray)
  have hB0 := hid (show Below w.heap.size w W0 from by rw [← hW0, ← hWA]; exact ((Below.refl _ _).alloc (Nat.le_refl _) _).alloc (by simp) _)
  have hz := hid z1
  have hW0' := hid hW0
  have hsk := hid sizeKey
  have hsh := hid sizeHss
  have hCk := hid (show (Tryz.prog.info? 23).map (·.size) = some kc.length from by rw [← hkc]; exact sizeHss)
  have k0 := hid (show kc[0]? = some (.int .i64 (kd : Int)) from by rw [← hkc]; rfl)
  have k1 := hid (show kc[1]? = some (.int .i64 (h : Int)) from by rw [← hkc]; rfl)
  have k2 := hid (show kc[2]? = some (.string id) from by rw [← hkc]; rfl)
  have k3 := hid (show kc[3]? = some (.string seed) from by rw [← hkc]; rfl)
  have k4 := hid (show kc[4]? = some (.int .i64 (q : Int)) from by rw [← hkc]; rfl)
  obtain ⟨u, hu⟩ : ∃ u, q / 2 ^ h = u := ⟨_, rfl⟩
  rw [hu]
  have hue : (q : Int) / 2 ^ h = (u : Int) := by rw [← hu]; simp
  have huq : u ≤ q := by rw [← hu]; exact Nat.div_le_self q (2 ^ h)
  have huw : IntKind.i64.wrap (u : Int) = (u : Int) := IntWalk.i64_in _ (by omega)
  have hU4 := hid (fun W => Be_any (u : Int) 4 4 rfl (by decide) u rfl (by omega) W)
  have hT2 := hid (fun W => rOf_any 2 (by decide) id seed u hi16 hs32 W)
  have hT3 := hid (fun W => rOf_any 3 (by decide) id seed u hi16 hs32 W)
  obtain ⟨la, hla⟩ : ∃ l, lowH 2 id seed u = l := ⟨_, rfl⟩
  obtain ⟨lb, hlb⟩ : ∃ l, lowH 3 id seed u = l := ⟨_, rfl⟩
  have la32 : la.length = 32 := by rw [← hla]; exact lowH_len _ _ _ _
  have lb32 : lb.length = 32 := by rw [← hlb]; exact lowH_len _ _ _ _
  rw [hla] at hT2
  rw [hlb] at hT3
  unfold lowId lowSeed
  rw [hla, hlb, ← hb_take16 la la32]
  have hTa := hid (fun W => show Calls Tryz.prog 45 #[.agg (byteCells la).toArray] W fun e w' => e = .returned (.string (txt la)) ∧ Below W.heap.size W w' from tT_any la la32 W)
  have hTb := hid (fun W => show Calls Tryz.prog 45 #[.agg (byteCells lb).toArray] W fun e w' => e = .returned (.string (txt lb)) ∧ Below W.heap.size W w' from tT_any lb lb32 W)
  obtain ⟨ta, hta⟩ : ∃ t, txt la = t := ⟨_, rfl⟩
  have hta32 : ta.size = 32 := by rw [← hta, txt_size]; exact la32
  have hta1 : 16 ≤ ta.size := by omega
  have hta2 : (16 : Int) ≤ (ta.size : Int) := by omega
  obtain ⟨ts, hts⟩ : ∃ t, txt lb = t := ⟨_, rfl⟩
  rw [hta] at hTa ⊢
  rw [hts] at hTb ⊢
  obtain ⟨bu, hbu⟩ : ∃ b, be 4 u = b := ⟨_, rfl⟩
  rw [hbu] at hU4 hT2 hT3
  obtain ⟨r, hr⟩ : ∃ r, q % 2 ^ h = r := ⟨_, rfl⟩
  rw [hr]
  obtain ⟨Z, hZ⟩ : ∃ Z : Int, ((2 ^ h : Nat) : Int) = Z := ⟨_, rfl⟩
  have hp1 : 1 ≤ 2 ^ h := Nat.pow_pos (by decide)
  have hp32 : 2 ^ h ≤ 32 := Nat.le_trans (Nat.pow_le_pow_right (by decide) h5) (by decide)
  have hZw : IntKind.i64.wrap (2 ^ h) = Z := (shl_wrap h h5).trans hZ
  have hm64 : min h 64 = h := by omega
  obtain ⟨M, hM⟩ : ∃ M : Int, ((2 ^ h - 1 : Nat) : Int) = M := ⟨_, rfl⟩
  have hMw : IntKind.i64.wrap (Z - 1) = M := by rw [IntWalk.i64_in _ (by omega)]; omega
  have hand : bits .and .i64 (q : Int) M = (r : Int) := by rw [← hM, mask_and q h (by omega) (by omega), hr]
  have hta32' := hid hta32
  clear hW0 hWA z1 hkc hu huq hla hlb hta hta32 hts hbu hr hZ hp1 hp32 hM hi16 hs32 la32 lb32
  have c4 := hK0.out.c 4 _ k4.out
  have c1 := hK0.out.c 1 _ k1.out
  go_enter Tryz.func23, Tryz.ntmps23
  go_wp2_with (first
    | ((with_reducible refine at_slot (some 1) ?_); refine wpList_run rfl (.pointer (some ⟨w.heap.size, 0, none⟩)) (w.alloc (.cells #[.int .i64 (kd : Int), .int .i64 (h : Int), .string id, .string seed, .int .i64 (q : Int)] 23)) (by kernel_rfl) ?_; rw [hA'.out])
    | ((with_reducible refine at_slot (some 2) ?_); refine wpList_run rfl (.pointer (some ⟨WA.heap.size, 0, none⟩)) (WA.alloc (.cells zk.toArray 39)) (by kernel_rfl) ?_; rw [hW0'.out, hz.out])
    | fail)
  refine (hU4.out _).mono ?_
  rintro e W1 ⟨rfl, hb⟩
  have hK1 := zon hb hK0
  have hZ1 := zon hb hZ0
  have hB1 := zup hb hB0
  clear hb hK0 hZ0 hB0 c4 c1
  go_wp2_with fail
  have hb : Below W1.heap.size W1 W1.drew := (Below.refl _ _).drew
  have hK2 := zon hb hK1
  have hZ2 := zon hb hZ1
  have hB2 := zup hb hB1
  clear hb hK1 hZ1 hB1
  refine wp_region_held_drew (S := fun V => Holds V w.heap.size 23 kc) (by kernel_rfl) (by exact hK2.out) (fun zH => ?_)
  generalize W1.drew = W2 at *
  refine tkx 0 (.pointer (some ⟨w.heap.size, 0, none⟩)) zH ?_; simp only [lp]
  refine tkx 1 (.int .i64 (kd : Int)) zH ?_ (hy := .inl ⟨by kernel_rfl, fun V hS => by have c0 := hS.c 0 _ k0.out; go_simp⟩); simp only [lp]
  refine tkx 2 (.pointer (some ⟨w.heap.size, 1, none⟩)) zH ?_; simp only [lp]
  refine tkx 3 (.int .i64 (h : Int)) zH ?_ (hy := .inl ⟨by kernel_rfl, fun V hS => by have c1 := hS.c 1 _ k1.out; go_simp⟩); simp only [lp]
  refine tkx 4 (.pointer (some ⟨w.heap.size, 2, none⟩)) zH ?_; simp only [lp]
  refine tkx 5 (.string id) zH ?_ (hy := .inl ⟨by kernel_rfl, fun V hS => by have c2 := hS.c 2 _ k2.out; go_simp⟩); simp only [lp]
  refine tkx 6 (.pointer (some ⟨w.heap.size, 3, none⟩)) zH ?_; simp only [lp]
  refine tkx 7 (.string seed) zH ?_ (hy := .inl ⟨by kernel_rfl, fun V hS => by have c3 := hS.c 3 _ k3.out; go_simp⟩); simp only [lp]
  refine tkx 8 (.string bu) zH ?_; simp only [lp]
  refine tkx 12 (.pointer (some ⟨w.heap.size, 2, none⟩)) zH ?_; simp only [lp]
  refine tkx 13 (.string id) zH ?_ (hy := .inl ⟨by kernel_rfl, fun V hS => by have c2 := hS.c 2 _ k2.out; go_simp⟩); simp only [lp]
  refine tkx 14 (.pointer (some ⟨w.heap.size, 3, none⟩)) zH ?_; simp only [lp]
  refine tkx 15 (.string seed) zH ?_ (hy := .inl ⟨by kernel_rfl, fun V hS => by have c3 := hS.c 3 _ k3.out; go_simp⟩); simp only [lp]
  refine tkx 16 (.string bu) zH ?_; simp only [lp]
  refine tkx 19 (.pointer (some ⟨w.heap.size, 4, none⟩)) zH ?_; simp only [lp]
  refine tkx 20 (.int .i64 (q : Int)) zH ?_ (hy := .inl ⟨by kernel_rfl, fun V hS => by have c4 := hS.c 4 _ k4.out; go_simp⟩); simp only [lp]
  refine tkx 21 (.pointer (some ⟨w.heap.size, 1, none⟩)) zH ?_; simp only [lp]
  refine tkx 22 (.int .i64 (h : Int)) zH ?_ (hy := .inl ⟨by kernel_rfl, fun V hS => by have c1 := hS.c 1 _ k1.out; go_simp⟩); simp only [lp]
  refine tkx 23 (.int .i64 Z) zH ?_; simp only [lp]
  refine tkx 24 (.int .i64 M) zH ?_; simp only [lp]
  refine tkx 25 (.int .i64 (r : Int)) zH ?_; simp only [lp]
  refine wpAnyH_ready (rs := [9]) (by kernel_rfl) (by simp) (AllReadyH.cons rfl (fun K hK => ?_) AllReadyH.nil)
  have hK' := hid hK
  clear hK
  rw [if_pos (by kernel_rfl)]
  simp only [ly1, ly2, ly3]
  go_simp
  refine (hT2.out _).mono ?_
  rintro e W3 ⟨rfl, hb⟩
  have hK3 := zon hb hK2
  have hZ3 := zon hb hZ2
  have hB3 := zup hb hB2
  clear hb hK2 hZ2 hB2
  refine hK'.out _ _ (by exact hK3.out) (fun zH => ?_)
  clear hK' K
  refine wpAnyH_ready (rs := [10]) (by kernel_rfl) (by simp) (AllReadyH.cons rfl (fun K hK => ?_) AllReadyH.nil)
  have hK' := hid hK
  clear hK
  rw [if_pos (by kernel_rfl)]
  simp only [ly1, ly2, ly3]
  go_simp
  refine (hTa.out _).mono ?_
  rintro e W4 ⟨rfl, hb⟩
  have hK4 := zon hb hK3
  have hZ4 := zon hb hZ3
  have hB4 := zup hb hB3
  clear hb hK3 hZ3 hB3
  refine hK'.out _ _ (by exact hK4.out) (fun zH => ?_)
  clear hK' K
  refine tkx 11 (.string (ta.extract 0 16)) zH ?_; simp only [lp]
  refine wpAnyH_ready (rs := [17]) (by kernel_rfl) (by simp) (AllReadyH.cons rfl (fun K hK => ?_) AllReadyH.nil)
  have hK' := hid hK
  clear hK
  rw [if_pos (by kernel_rfl)]
  simp only [ly1, ly2, ly3]
  go_simp
  refine (hT3.out _).mono ?_
  rintro e W5 ⟨rfl, hb⟩
  have hK5 := zon hb hK4
  have hZ5 := zon hb hZ4
  have hB5 := zup hb hB4
  clear hb hK4 hZ4 hB4
  refine hK'.out _ _ (by exact hK5.out) (fun zH => ?_)
  clear hK' K
  refine wpAnyH_ready (rs := [18]) (by kernel_rfl) (by simp) (AllReadyH.cons rfl (fun K hK => ?_) AllReadyH.nil)
  have hK' := hid hK
  clear hK
  rw [if_pos (by kernel_rfl)]
  simp only [ly1, ly2, ly3]
  go_simp
  refine (hTb.out _).mono ?_
  rintro e W6 ⟨rfl, hb⟩
  have hK6 := zon hb hK5
  have hZ6 := zon hb hZ5
  have hB6 := zup hb hB5
  clear hb hK5 hZ5 hB5
  refine hK'.out _ _ (by exact hK6.out) (fun zH => ?_)
  clear hK' K
  refine tkx 26 (.agg (keyC (kd : Int) (h : Int) (ta.extract 0 16) ts (r : Int)).toArray) zH ?_ (hy := .inl ⟨by kernel_rfl, fun w _ => by unfold keyC; go_simp⟩); simp only [lp]
  refine wpAnyH_ready (rs := [27]) (by kernel_rfl) (by simp) (AllReadyH.cons rfl (fun K hK => ?_) AllReadyH.nil)
  have hK' := hid hK
  clear hK
  rw [if_pos (by kernel_rfl)]
  simp only [ly1, ly2, ly3]
  refine wp_store_mid _ _ _ rfl (w.heap.size + 1) 0 (keyC (kd : Int) (h : Int) (ta.extract 0 16) ts (r : Int)).toArray rfl rfl (by exact hZ6.out.there 0 _ (Nat.le_refl 5)) (by exact hsk.out) (by exact keyC_one _ _ _ _ _) ?_
  generalize hXx : World.setCells _ _ _ _ = W7
  have hZ7 := hid (Holds.over (cs := keyC (kd : Int) (h : Int) (ta.extract 0 16) ts (r : Int)) hZ6.out rfl hXx)
  have hK7 := hid (holds_far hK6.out (by omega) hXx)
  have hB7 := hid (below_put hB6.out (by omega) hXx)
  clear hXx
  refine hK'.out _ _ (by exact hK7.out) (fun zH => ?_)
  clear hK' K
  refine wpAnyH_done (by kernel_rfl) ?_ _
  go_wp2_with fail
  exact bodyPost_ret (results_cell_row rfl _ _ (w.heap.size + 1) 39 _ (0, 0) _ rfl hZ7.out Tryz.underlying39 rfl (by exact hsk.out)) rfl ⟨rfl, hB7.out⟩

end Go.Proofs.YtmfajekfipfjpaaGreat
