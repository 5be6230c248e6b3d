/- Layer 5, the reference: which keys may be.
   Layer 5, the reference: a tree's nodes.
   Layer 5, the reference: public keys.
   Layer 5, the reference: signatures. -/
import Derived.Test.YtmfajekfipfjpaaGreatLmRn
import Derived.Test.YtmfajekfipfjpaaGreatOtsRs
import Derived.Test.YtmfajekfipfjpaaGreatLmVe
set_option maxRecDepth 100000
namespace Go.Proofs.YtmfajekfipfjpaaGreat
open Go.RowKit
open Go.Lib (strCells strCells_length strCells_oneCell)
attribute [local irreducible] Sha.compress Sha.blocks Sha.sha Sha.pad

set_option maxHeartbeats 4000000 in
theorem rLmsMay_any (o ht : Int) (id seed : ByteArray) (nx : Int) (w : World) : Calls Tryz.prog 32 #[.agg #[.int .i64 o, .int .i64 ht, .string id, .string seed, .int .i64 nx]] w fun e w' => e = .returned (.bool (keyOk o ht id seed nx)) ∧ Below w.heap.size w w' := by
  obtain ⟨R, hR⟩ : ∃ R, keyOk o ht id seed nx = R := ⟨_, rfl⟩
  rw [hR]
  unfold keyOk at hR
  obtain ⟨wx, px, lx, hans, hok⟩ : ∃ wx px lx : Int, refPar o = .tuple #[.int .i64 wx, .int .i64 px, .int .i64 lx] ∧ (Ots.par o).isSome = decide (0 < wx) := by
    unfold refPar
    cases hp : Ots.par o with
    | none => exact ⟨0, 0, 0, rfl, rfl⟩
    | some p =>
      obtain ⟨m, ho⟩ := par_ok hp
      exact ⟨p.w, p.p, p.ls, rfl, (decide_eq_true (by have := ho.w1; omega)).symm⟩
  rw [hok] at hR
  have hR' := hid hR
  have hP := hid (fun W => Params_any o W)
  rw [hans] at hP
  clear hans hR hok
  obtain ⟨W0, hW0⟩ : ∃ W0, w.alloc (.cells (keyC o ht id seed nx).toArray 39) = W0 := ⟨_, rfl⟩
  have hK0 := hid (show Holds W0 w.heap.size 39 (keyC o ht id seed nx) from by rw [← hW0]; exact Holds.new _ _ _)
  have hB0 := hid (show Below w.heap.size w W0 from by rw [← hW0]; exact (Below.refl _ _).alloc (Nat.le_refl _) _)
  have hW0' := hid hW0
  have hc0 := hid (hK0.out.c 0 _ rfl)
  clear hW0
  go_enter Tryz.func32, Tryz.ntmps32
  go_wp2_with (first
    | ((with_reducible refine at_slot (some 1) ?_); refine wpList_run rfl (.pointer (some ⟨w.heap.size, 0, none⟩)) (w.alloc (.cells (keyC o ht id seed nx).toArray 39)) (by kernel_rfl) ?_; rw [hW0'.out])
    | ((with_reducible refine at_slot (some 8) ?_); refine wpList_run rfl (.int .i64 o) W0 (by have c0 := hc0.out; go_simp) ?_)
    | fail)
  refine (hP.out _).mono ?_
  rintro e w' ⟨rfl, rfl⟩
  go_wp2_with fail
  have hb : Below w'.heap.size w' w'.drew := (Below.refl _ _).drew
  have hK8 := zon hb hK0
  have hB8 := zup hb hB0
  clear hb hK0 hB0 hc0
  refine wp_region_held_drew (S := fun W => Holds W w.heap.size 39 (keyC o ht id seed nx)) (by kernel_rfl) (by exact hK8.out) (fun zH => ?_)
  generalize w'.drew = W8 at *
  refine tkx 0 (.int .i64 wx) zH ?_; simp only [lp]
  by_cases hp0 : 0 < wx
  · have hf0 : decide (0 < wx) = true := decide_eq_true hp0
    have hq0 := decide_eq_true hp0
    refine tkx 1 (.bool true) zH ?_; simp only [lp]
    refine tkx 2 (.bool true) zH ?_; simp only [lp]
    refine tkx 3 (.pointer (some ⟨w.heap.size, 1, none⟩)) zH ?_; simp only [lp]
    refine tkx 4 (.int .i64 ht) zH ?_ (hy := .inl ⟨by kernel_rfl, fun W hS => by have c1 := hS.c 1 _ rfl; go_simp⟩); simp only [lp]
    by_cases hp1 : 1 ≤ ht
    · have hf1 : decide (1 ≤ ht) = true := decide_eq_true hp1
      refine tkx 5 (.bool true) zH ?_; simp only [lp]
      refine tkx 6 (.bool true) zH ?_; simp only [lp]
      refine tkx 7 (.bool true) zH ?_; simp only [lp]
      refine tkx 8 (.pointer (some ⟨w.heap.size, 1, none⟩)) zH ?_; simp only [lp]
      refine tkx 9 (.int .i64 ht) zH ?_ (hy := .inl ⟨by kernel_rfl, fun W hS => by have c1 := hS.c 1 _ rfl; go_simp⟩); simp only [lp]
      by_cases hp2 : ht ≤ 5
      · have hf2 : decide (ht ≤ 5) = true := decide_eq_true hp2
        have hq1 := decide_eq_true (And.intro hp1 hp2)
        refine tkx 10 (.bool true) zH ?_; simp only [lp]
        refine tkx 11 (.bool true) zH ?_; simp only [lp]
        refine tkx 12 (.bool true) zH ?_; simp only [lp]
        refine tkx 13 (.pointer (some ⟨w.heap.size, 2, none⟩)) zH ?_; simp only [lp]
        refine tkx 14 (.string id) zH ?_ (hy := .inl ⟨by kernel_rfl, fun W hS => by have c2 := hS.c 2 _ rfl; go_simp⟩); simp only [lp]
        refine tkx 15 (.int .i64 (id.size : Int)) zH ?_; simp only [lp]
        by_cases hp3 : id.size = 16
        · have hf3 : ((id.size : Int) == 16) = true := by simp; omega
          have hq2 := decide_eq_true hp3
          refine tkx 16 (.bool true) zH ?_; simp only [lp]
          refine tkx 17 (.bool true) zH ?_; simp only [lp]
          refine tkx 18 (.bool true) zH ?_; simp only [lp]
          refine tkx 19 (.pointer (some ⟨w.heap.size, 3, none⟩)) zH ?_; simp only [lp]
          refine tkx 20 (.string seed) zH ?_ (hy := .inl ⟨by kernel_rfl, fun W hS => by have c3 := hS.c 3 _ rfl; go_simp⟩); simp only [lp]
          refine tkx 21 (.int .i64 (seed.size : Int)) zH ?_; simp only [lp]
          by_cases hp4 : seed.size = 32
          · have hf4 : ((seed.size : Int) == 32) = true := by simp; omega
            have hq3 := decide_eq_true hp4
            refine tkx 22 (.bool true) zH ?_; simp only [lp]
            refine tkx 23 (.bool true) zH ?_; simp only [lp]
            refine tkx 24 (.bool true) zH ?_; simp only [lp]
            refine tkx 25 (.pointer (some ⟨w.heap.size, 4, none⟩)) zH ?_; simp only [lp]
            refine tkx 26 (.int .i64 nx) zH ?_ (hy := .inl ⟨by kernel_rfl, fun W hS => by have c4 := hS.c 4 _ rfl; go_simp⟩); simp only [lp]
            by_cases hp5 : 0 ≤ nx
            · have hf5 : decide (0 ≤ nx) = true := decide_eq_true hp5
              obtain ⟨Z, hZ⟩ : ∃ Z : Int, ((2 ^ ht.toNat : Nat) : Int) = Z := ⟨_, rfl⟩
              have hZw : IntKind.i64.wrap (2 ^ ht.toNat) = Z := (shl_wrap ht.toNat (by omega)).trans hZ
              have hq4 := decide_eq_true hp5
              refine tkx 27 (.bool true) zH ?_; simp only [lp]
              refine tkx 28 (.bool true) zH ?_; simp only [lp]
              refine tkx 29 (.bool true) zH ?_; simp only [lp]
              refine tkx 30 (.pointer (some ⟨w.heap.size, 4, none⟩)) zH ?_; simp only [lp]
              refine tkx 31 (.int .i64 nx) zH ?_ (hy := .inl ⟨by kernel_rfl, fun W hS => by have c4 := hS.c 4 _ rfl; go_simp⟩); simp only [lp]
              refine tkx 32 (.pointer (some ⟨w.heap.size, 1, none⟩)) zH ?_; simp only [lp]
              refine tkx 33 (.int .i64 ht) zH ?_ (hy := .inl ⟨by kernel_rfl, fun W hS => by have c1 := hS.c 1 _ rfl; go_simp⟩); simp only [lp]
              refine tkx 34 (.int .i64 Z) zH ?_; simp only [lp]
              by_cases hp6 : nx ≤ ((2 ^ ht.toNat : Nat) : Int)
              · have hf6 : decide (nx ≤ Z) = true := decide_eq_true (by rw [← hZ]; exact hp6)
                have hq5 := decide_eq_true hp6
                refine tkx 35 (.bool true) zH ?_; simp only [lp]
                refine tkx 36 (.bool true) zH ?_; simp only [lp]
                refine tkx 37 (.bool true) zH ?_; simp only [lp]
                refine wpAnyH_done (by kernel_rfl) ?_ _
                go_wp2_with fail
                go_ret
                exact ⟨by rw [← hR'.out]; exact (by rw [hq0, hq1, hq2, hq3, hq4, hq5]; rfl), hB8.out⟩
              · have hf6 : decide (nx ≤ Z) = false := decide_eq_false (by rw [← hZ]; exact hp6)
                have hq5 := decide_eq_false hp6
                refine tkx 35 (.bool false) zH ?_; simp only [lp]
                refine tkx 36 (.bool false) zH ?_; simp only [lp]
                refine tkx 37 (.bool false) zH ?_; simp only [lp]
                refine wpAnyH_done (by kernel_rfl) ?_ _
                go_wp2_with fail
                go_ret
                exact ⟨by rw [← hR'.out]; exact (by rw [hq0, hq1, hq2, hq3, hq4, hq5]; rfl), hB8.out⟩
            · have hf5 : decide (0 ≤ nx) = false := decide_eq_false hp5
              have hq4 := decide_eq_false hp5
              refine tkx 27 (.bool false) zH ?_; simp only [lp]
              refine tkx 28 (.bool false) zH ?_; simp only [lp]
              refine tkx 29 (.bool false) zH ?_; simp only [lp]
              refine tkx 30 undef zH ?_
              refine tkx 31 undef zH ?_
              refine tkx 32 undef zH ?_
              refine tkx 33 undef zH ?_
              refine tkx 34 undef zH ?_
              refine tkx 35 undef zH ?_; simp only [lp]
              refine tkx 36 (.bool false) zH ?_; simp only [lp]
              refine tkx 37 (.bool false) zH ?_; simp only [lp]
              refine wpAnyH_done (by kernel_rfl) ?_ _
              go_wp2_with fail
              go_ret
              exact ⟨by rw [← hR'.out]; exact (by rw [hq0, hq1, hq2, hq3, hq4]; rfl), hB8.out⟩
          · have hf4 : ((seed.size : Int) == 32) = false := by simp; omega
            have hq3 := decide_eq_false hp4
            refine tkx 22 (.bool false) zH ?_; simp only [lp]
            refine tkx 23 (.bool false) zH ?_; simp only [lp]
            refine tkx 24 (.bool false) zH ?_; simp only [lp]
            refine tkx 25 undef zH ?_
            refine tkx 26 undef zH ?_
            refine tkx 27 undef zH ?_; simp only [lp]
            refine tkx 28 (.bool false) zH ?_; simp only [lp]
            refine tkx 29 (.bool false) zH ?_; simp only [lp]
            refine tkx 30 undef zH ?_
            refine tkx 31 undef zH ?_
            refine tkx 32 undef zH ?_
            refine tkx 33 undef zH ?_
            refine tkx 34 undef zH ?_
            refine tkx 35 undef zH ?_; simp only [lp]
            refine tkx 36 (.bool false) zH ?_; simp only [lp]
            refine tkx 37 (.bool false) zH ?_; simp only [lp]
            refine wpAnyH_done (by kernel_rfl) ?_ _
            go_wp2_with fail
            go_ret
            exact ⟨by rw [← hR'.out]; exact (by rw [hq0, hq1, hq2, hq3]; rfl), hB8.out⟩
        · have hf3 : ((id.size : Int) == 16) = false := by simp; omega
          have hq2 := decide_eq_false hp3
          refine tkx 16 (.bool false) zH ?_; simp only [lp]
          refine tkx 17 (.bool false) zH ?_; simp only [lp]
          refine tkx 18 (.bool false) zH ?_; simp only [lp]
          refine tkx 19 undef zH ?_
          refine tkx 20 undef zH ?_
          refine tkx 21 undef zH ?_
          refine tkx 22 undef zH ?_; simp only [lp]
          refine tkx 23 (.bool false) zH ?_; simp only [lp]
          refine tkx 24 (.bool false) zH ?_; simp only [lp]
          refine tkx 25 undef zH ?_
          refine tkx 26 undef zH ?_
          refine tkx 27 undef zH ?_; simp only [lp]
          refine tkx 28 (.bool false) zH ?_; simp only [lp]
          refine tkx 29 (.bool false) zH ?_; simp only [lp]
          refine tkx 30 undef zH ?_
          refine tkx 31 undef zH ?_
          refine tkx 32 undef zH ?_
          refine tkx 33 undef zH ?_
          refine tkx 34 undef zH ?_
          refine tkx 35 undef zH ?_; simp only [lp]
          refine tkx 36 (.bool false) zH ?_; simp only [lp]
          refine tkx 37 (.bool false) zH ?_; simp only [lp]
          refine wpAnyH_done (by kernel_rfl) ?_ _
          go_wp2_with fail
          go_ret
          exact ⟨by rw [← hR'.out]; exact (by rw [hq0, hq1, hq2]; rfl), hB8.out⟩
      · have hf2 : decide (ht ≤ 5) = false := decide_eq_false hp2
        have hq1 := decide_eq_false (fun h : 1 ≤ ht ∧ ht ≤ 5 => hp2 h.2)
        refine tkx 10 (.bool false) zH ?_; simp only [lp]
        refine tkx 11 (.bool false) zH ?_; simp only [lp]
        refine tkx 12 (.bool false) zH ?_; simp only [lp]
        refine tkx 13 undef zH ?_
        refine tkx 14 undef zH ?_
        refine tkx 15 undef zH ?_
        refine tkx 16 undef zH ?_; simp only [lp]
        refine tkx 17 (.bool false) zH ?_; simp only [lp]
        refine tkx 18 (.bool false) zH ?_; simp only [lp]
        refine tkx 19 undef zH ?_
        refine tkx 20 undef zH ?_
        refine tkx 21 undef zH ?_
        refine tkx 22 undef zH ?_; simp only [lp]
        refine tkx 23 (.bool false) zH ?_; simp only [lp]
        refine tkx 24 (.bool false) zH ?_; simp only [lp]
        refine tkx 25 undef zH ?_
        refine tkx 26 undef zH ?_
        refine tkx 27 undef zH ?_; simp only [lp]
        refine tkx 28 (.bool false) zH ?_; simp only [lp]
        refine tkx 29 (.bool false) zH ?_; simp only [lp]
        refine tkx 30 undef zH ?_
        refine tkx 31 undef zH ?_
        refine tkx 32 undef zH ?_
        refine tkx 33 undef zH ?_
        refine tkx 34 undef zH ?_
        refine tkx 35 undef zH ?_; simp only [lp]
        refine tkx 36 (.bool false) zH ?_; simp only [lp]
        refine tkx 37 (.bool false) zH ?_; simp only [lp]
        refine wpAnyH_done (by kernel_rfl) ?_ _
        go_wp2_with fail
        go_ret
        exact ⟨by rw [← hR'.out]; exact (by rw [hq0, hq1]; rfl), hB8.out⟩
    · have hf1 : decide (1 ≤ ht) = false := decide_eq_false hp1
      have hq1 := decide_eq_false (fun h : 1 ≤ ht ∧ ht ≤ 5 => hp1 h.1)
      refine tkx 5 (.bool false) zH ?_; simp only [lp]
      refine tkx 6 (.bool false) zH ?_; simp only [lp]
      refine tkx 7 (.bool false) zH ?_; simp only [lp]
      refine tkx 8 undef zH ?_
      refine tkx 9 undef zH ?_
      refine tkx 10 undef zH ?_; simp only [lp]
      refine tkx 11 (.bool false) zH ?_; simp only [lp]
      refine tkx 12 (.bool false) zH ?_; simp only [lp]
      refine tkx 13 undef zH ?_
      refine tkx 14 undef zH ?_
      refine tkx 15 undef zH ?_
      refine tkx 16 undef zH ?_; simp only [lp]
      refine tkx 17 (.bool false) zH ?_; simp only [lp]
      refine tkx 18 (.bool false) zH ?_; simp only [lp]
      refine tkx 19 undef zH ?_
      refine tkx 20 undef zH ?_
      refine tkx 21 undef zH ?_
      refine tkx 22 undef zH ?_; simp only [lp]
      refine tkx 23 (.bool false) zH ?_; simp only [lp]
      refine tkx 24 (.bool false) zH ?_; simp only [lp]
      refine tkx 25 undef zH ?_
      refine tkx 26 undef zH ?_
      refine tkx 27 undef zH ?_; simp only [lp]
      refine tkx 28 (.bool false) zH ?_; simp only [lp]
      refine tkx 29 (.bool false) zH ?_; simp only [lp]
      refine tkx 30 undef zH ?_
      refine tkx 31 undef zH ?_
      refine tkx 32 undef zH ?_
      refine tkx 33 undef zH ?_
      refine tkx 34 undef zH ?_
      refine tkx 35 undef zH ?_; simp only [lp]
      refine tkx 36 (.bool false) zH ?_; simp only [lp]
      refine tkx 37 (.bool false) zH ?_; simp only [lp]
      refine wpAnyH_done (by kernel_rfl) ?_ _
      go_wp2_with fail
      go_ret
      exact ⟨by rw [← hR'.out]; exact (by rw [hq0, hq1]; rfl), hB8.out⟩
  · have hf0 : decide (0 < wx) = false := decide_eq_false hp0
    have hq0 := decide_eq_false hp0
    refine tkx 1 (.bool false) zH ?_; simp only [lp]
    refine tkx 2 (.bool false) zH ?_; simp only [lp]
    refine tkx 3 undef zH ?_
    refine tkx 4 undef zH ?_
    refine tkx 5 undef zH ?_; simp only [lp]
    refine tkx 6 (.bool false) zH ?_; simp only [lp]
    refine tkx 7 (.bool false) zH ?_; simp only [lp]
    refine tkx 8 undef zH ?_
    refine tkx 9 undef zH ?_
    refine tkx 10 undef zH ?_; simp only [lp]
    refine tkx 11 (.bool false) zH ?_; simp only [lp]
    refine tkx 12 (.bool false) zH ?_; simp only [lp]
    refine tkx 13 undef zH ?_
    refine tkx 14 undef zH ?_
    refine tkx 15 undef zH ?_
    refine tkx 16 undef zH ?_; simp only [lp]
    refine tkx 17 (.bool false) zH ?_; simp only [lp]
    refine tkx 18 (.bool false) zH ?_; simp only [lp]
    refine tkx 19 undef zH ?_
    refine tkx 20 undef zH ?_
    refine tkx 21 undef zH ?_
    refine tkx 22 undef zH ?_; simp only [lp]
    refine tkx 23 (.bool false) zH ?_; simp only [lp]
    refine tkx 24 (.bool false) zH ?_; simp only [lp]
    refine tkx 25 undef zH ?_
    refine tkx 26 undef zH ?_
    refine tkx 27 undef zH ?_; simp only [lp]
    refine tkx 28 (.bool false) zH ?_; simp only [lp]
    refine tkx 29 (.bool false) zH ?_; simp only [lp]
    refine tkx 30 undef zH ?_
    refine tkx 31 undef zH ?_
    refine tkx 32 undef zH ?_
    refine tkx 33 undef zH ?_
    refine tkx 34 undef zH ?_
    refine tkx 35 undef zH ?_; simp only [lp]
    refine tkx 36 (.bool false) zH ?_; simp only [lp]
    refine tkx 37 (.bool false) zH ?_; simp only [lp]
    refine wpAnyH_done (by kernel_rfl) ?_ _
    go_wp2_with fail
    go_ret
    exact ⟨by rw [← hR'.out]; exact (by rw [hq0]; rfl), hB8.out⟩

end Go.Proofs.YtmfajekfipfjpaaGreat
namespace Go.Proofs.YtmfajekfipfjpaaGreat
open Go.RowKit
open Go.Lib (strCells strCells_length strCells_oneCell)
attribute [local irreducible] Sha.compress Sha.blocks Sha.sha Sha.pad

/-- What a leaf, an inner node are made of. -/
theorem rLeaf_any (p : Ots.Par) (h q k : Nat) (id seed : ByteArray) (hi16 : id.size = 16) (hk : 2 ^ h + q = k) (hq : q < 2 ^ h) (W : World) : Calls Tryz.prog 56 #[.string (id ++ be 4 k ++ ⟨#[130, 130]⟩ ++ txt (Ots.pub p (Ots.head id.data.toList q) seed.data.toList))] W fun e w' => e = .returned (.string (txt (ndOf p h id seed k))) ∧ Below W.heap.size W w' := by
  have hc := rH_any (id ++ be 4 k ++ ⟨#[130, 130]⟩ ++ txt (Ots.pub p (Ots.head id.data.toList q) seed.data.toList)) W (by rw [← lead82]; have := leafX_size id k (Ots.pub p (Ots.head id.data.toList q) seed.data.toList) (Lms.pub_len _ _ _); unfold leafX at this; rw [this]; omega)
  have e : ndOf p h id seed k = Lms.leaf id.data.toList k (Ots.pub p (Ots.head id.data.toList q) seed.data.toList) := by
    unfold ndOf
    rw [Lms.at_leaf _ _ h k (by omega) (by rw [Nat.pow_succ]; omega)]
    unfold Lms.keys
    rw [← hk, Nat.add_sub_cancel_left]
  rw [leaf_text, ← e] at hc
  exact hc
theorem rJoin_any (p : Ots.Par) (h k : Nat) (id seed : ByteArray) (hi16 : id.size = 16) (h1 : 1 ≤ k) (hk : k < 2 ^ h) (W : World) : Calls Tryz.prog 56 #[.string (id ++ be 4 k ++ ⟨#[131, 131]⟩ ++ txt (ndOf p h id seed (2 * k)) ++ txt (ndOf p h id seed (2 * k + 1)))] W fun e w' => e = .returned (.string (txt (ndOf p h id seed k))) ∧ Below W.heap.size W w' := by
  have hc := rH_any (id ++ be 4 k ++ ⟨#[131, 131]⟩ ++ txt (ndOf p h id seed (2 * k)) ++ txt (ndOf p h id seed (2 * k + 1))) W (by rw [← lead83]; have := joinX_size id k (ndOf p h id seed (2 * k)) (ndOf p h id seed (2 * k + 1)) (ndOf_len _ _ _ _ _) (ndOf_len _ _ _ _ _); unfold joinX at this; rw [this]; omega)
  have e : ndOf p h id seed k = Lms.join id.data.toList k (ndOf p h id seed (2 * k)) (ndOf p h id seed (2 * k + 1)) := Lms.at_join _ _ h k h1 hk
  rw [join_text, ← e] at hc
  exact hc
set_option maxHeartbeats 2000000 in
theorem rNodes_any (p : Ots.Par) (kd : Int) (hpar : Ots.par kd = some p) (h : Nat) (h1 : 1 ≤ h) (h5 : h ≤ 5) (id seed : ByteArray) (hi16 : id.size = 16) (hs32 : seed.size = 32) (nx : Int) (w : World) :
    Calls Tryz.prog 34 #[.agg #[.int .i64 kd, .int .i64 (h : Int), .string id, .string seed, .int .i64 nx]] w fun e w' => ∃ g, e = .returned (.slice (some ⟨g, 0, none⟩) (2 * 2 ^ h) (2 * 2 ^ h)) ∧ w.heap.size < g ∧ Holds w' g 9 (nodeC (ndOf p h id seed) (2 * 2 ^ h) 0) ∧ Below w.heap.size w w' := by
  obtain ⟨m, hm⟩ : ∃ m, 2 ^ h = m := ⟨_, rfl⟩
  have hm32 : m ≤ 32 := by rw [← hm]; exact Nat.le_trans (Nat.pow_le_pow_right (by decide) h5) (by decide)
  have hm2 : 2 ≤ m := by rw [← hm]; exact Nat.le_trans (show 2 ≤ 2 ^ 1 by decide) (Nat.pow_le_pow_right (by decide) h1)
  have hY := hid (fun q (hq : q < m) W => show Calls Tryz.prog 55 #[.int .i64 kd, .string id, .int .i64 (q : Int), .string seed] W fun e w' => e = .returned (.tuple #[.agg (byteCells (Ots.pub p (Ots.head id.data.toList q) seed.data.toList)).toArray, .int .i64 0]) ∧ Below W.heap.size W w' from by
    exact rPublic_good kd (q : Int) id seed p (by unfold otsGood; rw [hpar]; exact if_pos ⟨by unfold Ots.may; rw [decide_eq_true ⟨hi16, by omega, by omega⟩], hs32⟩) W)
  have hL := hid (fun q k (hk : m + q = k) (hq : q < m) W => rLeaf_any p h q k id seed hi16 (by rw [hm]; exact hk) (by rw [hm]; exact hq) W)
  have hJ := hid (fun k (h1 : 1 ≤ k) (hk : k < m) W => rJoin_any p h k id seed hi16 h1 (by rw [hm]; exact hk) W)
  have hys : ∀ q, (Ots.pub p (Ots.head id.data.toList q) seed.data.toList).length = 32 := fun q => Lms.pub_len _ _ _
  have hyc := hid (fun q => hash_cells (Ots.pub p (Ots.head id.data.toList q) seed.data.toList) (hys q))
  have hyT := hid (fun q W => show Calls Tryz.prog 45 #[.agg (byteCells (Ots.pub p (Ots.head id.data.toList q) seed.data.toList)).toArray] W fun e w' => e = .returned (.string (txt (Ots.pub p (Ots.head id.data.toList q) seed.data.toList))) ∧ Below W.heap.size W w' from tT_any _ (hys q) W)
  have hysz := hid (fun q => show (txt (Ots.pub p (Ots.head id.data.toList q) seed.data.toList)).size = 32 from by rw [txt_size]; exact hys q)
  obtain ⟨yk, hyk⟩ : ∃ f : Nat → List UInt8, (fun q => Ots.pub p (Ots.head id.data.toList q) seed.data.toList) = f := ⟨_, rfl⟩
  have hyk' : ∀ q, Ots.pub p (Ots.head id.data.toList q) seed.data.toList = yk q := fun q => congrFun hyk q
  simp only [hyk'] at hY hL hyc hyT hysz
  obtain ⟨nd, hnd⟩ : ∃ nd, ndOf p h id seed = nd := ⟨_, rfl⟩
  have hnl := hid (fun r => show (txt (nd r)).size = 32 from by rw [txt_size, ← hnd]; exact ndOf_len p h id seed r)
  rw [hnd] at hL hJ ⊢
  clear hyk' hyk hys hnd
  obtain ⟨n, hn⟩ : ∃ n, 2 * m = n := ⟨_, rfl⟩
  rw [hm, hn]
  obtain ⟨L, hLn⟩ : ∃ L, n = L + 1 := ⟨n - 1, by omega⟩
  obtain ⟨Z, hZ⟩ : ∃ Z : Int, (m : Int) = Z := ⟨_, rfl⟩
  have hZw : IntKind.i64.wrap (2 ^ h) = Z := (shl_wrap h h5).trans (by rw [hm]; exact hZ)
  have hm64 : min h 64 = h := by omega
  have e2 : IntKind.i64.wrap (2 * Z) = (n : Int) := by rw [IntWalk.i64_in _ (by omega)]; omega
  have e3 : IntKind.i64.wrap ((n : Int) - 1) = (L : Int) := by rw [IntWalk.i64_in _ (by omega)]; omega
  have hBe := hid (fun (k : Nat) (hk : k < 64) W => Be_any (k : Int) 4 4 rfl (by decide) k rfl (by omega) W)
  obtain ⟨kc, hkc⟩ : ∃ kc, keyC kd (h : Int) id seed nx = kc := ⟨_, rfl⟩
  have k0 := hid (show kc[0]? = some (.int .i64 kd) from by rw [← hkc]; rfl)
  have k1 := hid (show kc[1]? = some (.int .i64 (h : Int)) from by rw [← hkc]; rfl)
  have k2 := hid (show kc[2]? = some (.string id) from by rw [← hkc]; rfl)
  have k3 := hid (show kc[3]? = some (.string seed) from by rw [← hkc]; rfl)
  have hW0' := hid (show w.alloc (.cells #[.int .i64 kd, .int .i64 (h : Int), .string id, .string seed, .int .i64 nx] 39) = w.alloc (.cells kc.toArray 39) from by rw [← hkc]; rfl)
  obtain ⟨W1, hW1⟩ : ∃ W1, w.alloc (.cells kc.toArray 39) = W1 := ⟨_, rfl⟩
  have hK1 := hid (show Holds W1 w.heap.size 39 kc from by rw [← hW1]; exact Holds.new _ _ kc.toArray)
  have hB1 := hid (show Below w.heap.size w W1 from by rw [← hW1]; exact (Below.refl _ _).alloc (Nat.le_refl _) _)
  have c1 := hK1.out.c 1 _ k1.out
  rw [hW1] at hW0'
  obtain ⟨i0, hi0, hz0, hz1, hz2⟩ := info_parts Tryz.infoStrR
  have hmm := hid hm
  have hZZ := hid hZ
  have hnn := hid hn
  have hLL := hid hLn
  have hid16 := hid hi16
  clear hm hZ hn hLn hW1 hkc hpar hs32 hi16 h1 h5
  go_enter Tryz.func34, Tryz.ntmps34
  go_wp2_with (first
    | ((with_reducible refine at_slot (some 1) ?_); refine wpList_run rfl (.pointer (some ⟨w.heap.size, 0, none⟩)) (w.alloc (.cells #[.int .i64 kd, .int .i64 (h : Int), .string id, .string seed, .int .i64 nx] 39)) (by kernel_rfl) ?_; rw [hW0'.out])
    | ((with_reducible refine at_slot (some 13) ?_); refine wpList_make_block rfl _ _ _ rfl 9 i0 (.string ByteArray.empty) Tryz.underlying67 hi0 hz0 hz1 rfl (by have := hnn.out; omega) (n : Int) n rfl rfl rfl (by have := hnn.out; omega) ?_; generalize hWg : World.alloc _ _ = W2; have hWg' := hid hWg; clear hWg)
    | fail)
  obtain ⟨g, hg⟩ : ∃ g, W1.heap.size = g := ⟨_, rfl⟩
  have hb : Below W1.heap.size W1 W2 := by rw [← hWg'.out]; exact (Below.refl _ _).alloc (Nat.le_refl _) _
  have hG2 := hid (show Holds W2 g 9 (nodeC nd n L) from by
    rw [← hWg'.out, nodeC_start nd n L (by have := hLL.out; omega), ← hg]
    have := Holds.new W1 9 (Array.replicate n (.string ByteArray.empty))
    rw [Array.toList_replicate] at this
    exact this)
  have hlg : w.heap.size < g := by rw [← hg]; exact hK1.out.lt
  have hK2 := zon hb hK1
  have hB2 := zup hb hB1
  rw [hg]
  clear hb hWg' hK1 hB1 c1 hg
  go_loopw [5] (fun r wr => ∃ k : Nat, k ≤ L ∧ r = .int .i64 (k : Int) ∧ Holds wr w.heap.size 39 kc ∧ Holds wr g 9 (nodeC nd n k) ∧ Below w.heap.size w wr) (fun r _ => (intOf r).toNat)
  case atStart => exact ⟨L, Nat.le_refl _, rfl, hK2.out, hG2.out, hB2.out⟩
  case round =>
    obtain ⟨k, hk, rfl, hKr, hGr, hBr⟩ := hrel
    have hK0 := hid hKr
    have hG0 := hid hGr
    have hB0 := hid hBr
    clear hKr hGr hBr
    by_cases hk0 : k = 0
    · subst hk0
      go_wp2_with fail
      go_ret
      exact ⟨g, rfl, hlg, hG0.out, hB0.out⟩
    · obtain ⟨j, hkj⟩ : ∃ j, j + 1 = k := ⟨k - 1, by omega⟩
      have hkp : (0 : Int) < (k : Int) := by omega
      have hkn : (k : Int) < (n : Int) := by have := hLL.out; omega
      have hk0i : (0 : Int) ≤ (k : Int) := by omega
      have ukw : IntKind.i64.wrap ((k : Int) - 1) = (j : Int) := by have := hLL.out; have := hnn.out; rw [IntWalk.i64_in _ (by omega)]; omega
      have hkN : k < n := by have := hLL.out; omega
      obtain ⟨bk, hbk⟩ : ∃ b, be 4 k = b := ⟨_, rfl⟩
      have sbk : bk.size = 4 := by rw [← hbk, be_size]
      have si := hid16.out
      have hBk := hid (fun W => show Calls Tryz.prog 19 #[.int .i64 (k : Int), .int .i64 4] W fun e w' => e = .returned (.string bk) ∧ Below W.heap.size W w' from by rw [← hbk]; exact hBe.out k (by have := hLL.out; have := hnn.out; omega) W)
      have z1 : id.size + bk.size ≤ 9223372036854775807 := by omega
      have z2 : id.size + bk.size + 2 ≤ 9223372036854775807 := by omega
      have z3 : id.size + bk.size + 2 + 32 ≤ 9223372036854775807 := by omega
      have z4 : id.size + bk.size + 2 + 32 + 32 ≤ 9223372036854775807 := by omega
      by_cases hkm : m ≤ k
      · obtain ⟨q, hq⟩ : ∃ q, m + q = k := ⟨k - m, by omega⟩
        have hqm : q < m := by have := hnn.out; omega
        have hZk : Z ≤ (k : Int) := by have := hZZ.out; omega
        have uq : IntKind.i64.wrap ((k : Int) - Z) = (q : Int) := by have := hZZ.out; rw [IntWalk.i64_in _ (by omega)]; omega
        have hLf := hid (fun W => hL.out q k hq hqm W)
        rw [hbk] at hLf
        obtain ⟨y, hy⟩ : ∃ y, yk q = y := ⟨_, rfl⟩
        have hYq := hid (fun W => hY.out q hqm W)
        have hC := hid (hyc.out q)
        have hTq := hid (fun W => hyT.out q W)
        have hysq := hysz.out q
        rw [hy] at hLf hYq hC hTq hysq
        have c0 := hK0.out.c 0 _ k0.out
        have c2 := hK0.out.c 2 _ k2.out
        have c3 := hK0.out.c 3 _ k3.out
        obtain ⟨ty, hty⟩ : ∃ t, txt y = t := ⟨_, rfl⟩
        rw [hty] at hLf hTq hysq
        have zz : id.size + bk.size + 2 + ty.size ≤ 9223372036854775807 := by omega
        clear hq hy hbk hty sbk si hysq z3 z4
        go_wp2_with fail
        refine (hYq.out _).mono ?_
        rintro e W20 ⟨rfl, hb⟩
        have hK20 := zon hb hK0
        have hG20 := zon hb hG0
        have hB20 := zup hb hB0
        have hG20x := hid hG20.out.lt
        clear hb hK0 hG0 hB0 c0 c2 c3
        go_wp2_with (first
          | ((with_reducible refine at_slot (some 6) ?_); refine wpList_run rfl (.pointer (some ⟨W20.heap.size, 0, none⟩)) (W20.alloc (.cells z32 60)) (by kernel_rfl) ?_)
          | ((with_reducible refine at_slot none ?_); refine wpList_store_mid rfl 60 (.tmp 6) (.tmp 35) rfl W20.heap.size 0 (byteCells y).toArray rfl rfl (by exact hC.out.there W20) (by exact hC.out.size) (by exact hC.out.one) ?_; generalize hW : World.setCells _ _ _ _ = W21; obtain ⟨hN, hb⟩ := hC.out.new hW; have hK21 := zon hb hK20; have hG21 := zon hb hG20; have hB21 := zup hb hB20; have hY21 := hid hN; clear hb hK20 hG20 hB20 hN; clear hW)
          | fail)
        obtain ⟨gy, hgy⟩ : ∃ gy, W20.heap.size = gy := ⟨_, rfl⟩
        have hgl := hid (show g < gy from by rw [← hgy]; exact hG20x.out)
        rw [hgy] at hY21 ⊢
        clear hgy
        have hb : Below W21.heap.size W21 W21.drew := (Below.refl _ _).drew
        have hK22 := zon hb hK21
        have hG22 := zon hb hG21
        have hB22 := zup hb hB21
        have hY22 := zon hb hY21
        clear hb hK21 hG21 hB21 hY21
        refine wp_region_held_drew (S := fun V => Holds V w.heap.size 39 kc ∧ Holds V gy 60 (byteCells y)) (by kernel_rfl) (by exact ⟨hK22.out, hY22.out⟩) (fun zH => ?_)
        generalize W21.drew = W22 at *
        refine tkx 0 (.slice (some ⟨g, 0, none⟩) n n) zH ?_; simp only [lp]
        refine tkx 1 (.int .i64 (k : Int)) zH ?_; simp only [lp]
        refine tkx 2 (.pointer (some ⟨w.heap.size, 2, none⟩)) zH ?_; simp only [lp]
        refine tkx 3 (.string id) zH ?_ (hy := .inl ⟨by kernel_rfl, fun V hS => by have c2 := hS.1.c 2 _ k2.out; go_simp⟩); simp only [lp]
        refine tkx 4 (.int .i64 (k : Int)) zH ?_; simp only [lp]
        refine tkx 8 (.agg (byteCells y).toArray) zH ?_ (hy := yieldsIf_load_mid (by kernel_rfl) _ _ rfl _ _ rfl _ _ (fun V hS => h_all hS.2) Tryz.underlying60 rfl (by exact hC.out.size')); simp only [lp]
        refine wpAnyH_ready (rs := [5]) (by kernel_rfl) (by simp) (AllReadyH.cons rfl (fun K hK => ?_) AllReadyH.nil)
        have hK' := hid hK
        clear hK
        rw [if_pos (by kernel_rfl)]
        simp only [ly1, ly2, ly3]
        go_simp
        refine (hBk.out _).mono ?_
        rintro e W23 ⟨rfl, hb⟩
        have hK23 := zon hb hK22
        have hG23 := zon hb hG22
        have hB23 := zup hb hB22
        have hY23 := zon hb hY22
        clear hb hK22 hG22 hB22 hY22
        refine hK'.out _ _ (by exact ⟨hK23.out, hY23.out⟩) (fun zH => ?_)
        clear hK' K
        refine tkx 6 (.string (id ++ bk)) zH ?_; simp only [lp]
        refine tkx 7 (.string (id ++ bk ++ ⟨#[130, 130]⟩)) zH ?_; simp only [lp]
        refine wpAnyH_ready (rs := [9]) (by kernel_rfl) (by simp) (AllReadyH.cons rfl (fun K hK => ?_) AllReadyH.nil)
        have hK' := hid hK
        clear hK
        rw [if_pos (by kernel_rfl)]
        simp only [ly1, ly2, ly3]
        go_simp
        refine (hTq.out _).mono ?_
        rintro e W24 ⟨rfl, hb⟩
        have hK24 := zon hb hK23
        have hG24 := zon hb hG23
        have hB24 := zup hb hB23
        have hY24 := zon hb hY23
        clear hb hK23 hG23 hB23 hY23
        refine hK'.out _ _ (by exact ⟨hK24.out, hY24.out⟩) (fun zH => ?_)
        clear hK' K
        refine tkx 10 (.string (id ++ bk ++ ⟨#[130, 130]⟩ ++ ty)) zH ?_; simp only [lp]
        refine wpAnyH_ready (rs := [11]) (by kernel_rfl) (by simp) (AllReadyH.cons rfl (fun K hK => ?_) AllReadyH.nil)
        have hK' := hid hK
        clear hK
        rw [if_pos (by kernel_rfl)]
        simp only [ly1, ly2, ly3]
        go_simp
        refine (hLf.out _).mono ?_
        rintro e W25 ⟨rfl, hb⟩
        have hK25 := zon hb hK24
        have hG25 := zon hb hG24
        have hB25 := zup hb hB24
        have hY25 := zon hb hY24
        clear hb hK24 hG24 hB24 hY24
        refine hK'.out _ _ (by exact ⟨hK25.out, hY25.out⟩) (fun zH => ?_)
        clear hK' K
        refine tkx 12 (.pointer (some ⟨g, k, none⟩)) zH ?_; simp only [lp]
        refine wpAnyH_ready (rs := [13]) (by kernel_rfl) (by simp) (AllReadyH.cons rfl (fun K hK => ?_) AllReadyH.nil)
        have hK' := hid hK
        clear hK
        rw [if_pos (by kernel_rfl)]
        simp only [ly1, ly2, ly3]
        have cg := hG25.out.c k (.string ⟨#[]⟩) (by rw [nodeC_at hkN, if_neg (Nat.lt_irrefl k)])
        have fg := hG25.out.frozen k
        go_simp
        generalize hXy : World.setCell _ _ _ = W26
        have hXx : W25.setCells g k [.string (txt (nd k))] = W26 := hXy
        have hG26 := hid (show Holds W26 g 9 (nodeC nd n j) from by rw [← nodeC_set nd n j, hkj, ← hXy]; exact Holds.set hG25.out k _)
        clear cg fg
        have hK26 := hid (holds_far hK25.out (by omega) hXx)
        have hB26 := hid (below_put hB25.out (by omega) hXx)
        have hY26 := hid (holds_far hY25.out (by have := hgl.out; omega) hXx)
        clear hXx hXy
        refine hK'.out _ _ (by exact ⟨hK26.out, hY26.out⟩) (fun zH => ?_)
        clear hK' K
        refine wpAnyH_done (by kernel_rfl) ?_ _
        go_wp2_with fail
        go_roundw
        case rel => exact ⟨j, by omega, by go_num, hK26.out, hG26.out, hB26.out⟩
        case measure => simp [intOf]; omega
      · have hkZ : ¬ Z ≤ (k : Int) := by have := hZZ.out; omega
        have hJk := hid (fun W => hJ.out k (by omega) (by omega) W)
        rw [hbk] at hJk
        have s1 := hnl.out (2 * k)
        have s2 := hnl.out (2 * k + 1)
        have u1 : IntKind.i64.wrap (2 * (k : Int)) = ((2 * k : Nat) : Int) := by rw [IntWalk.i64_in _ (by omega)]; omega
        have u2 : IntKind.i64.wrap (((2 * k : Nat) : Int) + 1) = ((2 * k + 1 : Nat) : Int) := by rw [IntWalk.i64_in _ (by omega)]; omega
        have n1 : nodeC nd n k = nodeC nd n k := rfl
        obtain ⟨a, ha⟩ : ∃ a, 2 * k = a := ⟨_, rfl⟩
        obtain ⟨b, hb2⟩ : ∃ b, a + 1 = b := ⟨_, rfl⟩
        rw [ha] at hJk s1 s2 u1 u2
        rw [hb2] at hJk s2 u2
        have ha1 : k < a := by omega
        have hb1 : k < b := by omega
        have han : a < n := by have := hnn.out; omega
        have hbn : b < n := by have := hnn.out; omega
        have hai : (a : Int) < (n : Int) := by omega
        have hbi : (b : Int) < (n : Int) := by omega
        have ha0 : (0 : Int) ≤ (a : Int) := by omega
        have hb0 : (0 : Int) ≤ (b : Int) := by omega
        obtain ⟨ta, hta⟩ : ∃ t, txt (nd a) = t := ⟨_, rfl⟩
        obtain ⟨tb, htb⟩ : ∃ t, txt (nd b) = t := ⟨_, rfl⟩
        have hab := hid (fun (V : World) (r : Nat) (hr : r ≤ k) (hG : Holds V g 9 (nodeC nd n r)) => And.intro (hG.c a (.string ta) (by rw [← hta]; exact nodeC_got han (by omega))) (hG.c b (.string tb) (by rw [← htb]; exact nodeC_got hbn (by omega))))
        rw [hta, htb] at hJk
        rw [hta] at s1
        rw [htb] at s2
        have z5 : id.size + bk.size + 2 + ta.size ≤ 9223372036854775807 := by omega
        have z6 : id.size + bk.size + 2 + ta.size + tb.size ≤ 9223372036854775807 := by omega
        clear ha hb2 hta htb hbk sbk si s1 s2 z3 z4 n1 ha1 hb1
        go_wp2_with fail
        have hb : Below wr.heap.size wr wr.drew := (Below.refl _ _).drew
        have hK1 := zon hb hK0
        have hG1 := zon hb hG0
        have hB1 := zup hb hB0
        clear hb hK0 hG0 hB0
        refine wp_region_held_drew (S := fun V => Holds V w.heap.size 39 kc ∧ V.cell? ⟨g, a, none⟩ = some (.string ta) ∧ V.cell? ⟨g, b, none⟩ = some (.string tb)) (by kernel_rfl) (by exact ⟨hK1.out, hab.out _ _ (by omega) hG1.out⟩) (fun zH => ?_)
        generalize wr.drew = W1 at *
        refine tkx 0 (.slice (some ⟨g, 0, none⟩) n n) zH ?_; simp only [lp]
        refine tkx 1 (.int .i64 (k : Int)) zH ?_; simp only [lp]
        refine tkx 2 (.pointer (some ⟨w.heap.size, 2, none⟩)) zH ?_; simp only [lp]
        refine tkx 3 (.string id) zH ?_ (hy := .inl ⟨by kernel_rfl, fun V hS => by have c2 := hS.1.c 2 _ k2.out; go_simp⟩); simp only [lp]
        refine tkx 4 (.int .i64 (k : Int)) zH ?_; simp only [lp]
        refine tkx 8 (.slice (some ⟨g, 0, none⟩) n n) zH ?_; simp only [lp]
        refine tkx 9 (.int .i64 (k : Int)) zH ?_; simp only [lp]
        refine tkx 10 (.int .i64 (a : Int)) zH ?_; simp only [lp]
        refine tkx 11 (.pointer (some ⟨g, a, none⟩)) zH ?_; simp only [lp]
        refine tkx 12 (.string ta) zH ?_ (hy := .inl ⟨by kernel_rfl, fun V hS => by have c2 := hS.2.1; go_simp⟩); simp only [lp]
        refine tkx 14 (.slice (some ⟨g, 0, none⟩) n n) zH ?_; simp only [lp]
        refine tkx 15 (.int .i64 (k : Int)) zH ?_; simp only [lp]
        refine tkx 16 (.int .i64 (a : Int)) zH ?_; simp only [lp]
        refine tkx 17 (.int .i64 (b : Int)) zH ?_; simp only [lp]
        refine tkx 18 (.pointer (some ⟨g, b, none⟩)) zH ?_; simp only [lp]
        refine tkx 19 (.string tb) zH ?_ (hy := .inl ⟨by kernel_rfl, fun V hS => by have c2 := hS.2.2; go_simp⟩); simp only [lp]
        refine wpAnyH_ready (rs := [5]) (by kernel_rfl) (by simp) (AllReadyH.cons rfl (fun K hK => ?_) AllReadyH.nil)
        have hK' := hid hK
        clear hK
        rw [if_pos (by kernel_rfl)]
        simp only [ly1, ly2, ly3]
        go_simp
        refine (hBk.out _).mono ?_
        rintro e W2 ⟨rfl, hb⟩
        have hK2 := zon hb hK1
        have hG2 := zon hb hG1
        have hB2 := zup hb hB1
        clear hb hK1 hG1 hB1
        refine hK'.out _ _ (by exact ⟨hK2.out, hab.out _ _ (by omega) hG2.out⟩) (fun zH => ?_)
        clear hK' K
        refine tkx 6 (.string (id ++ bk)) zH ?_; simp only [lp]
        refine tkx 7 (.string (id ++ bk ++ ⟨#[131, 131]⟩)) zH ?_; simp only [lp]
        refine tkx 13 (.string (id ++ bk ++ ⟨#[131, 131]⟩ ++ ta)) zH ?_; simp only [lp]
        refine tkx 20 (.string (id ++ bk ++ ⟨#[131, 131]⟩ ++ ta ++ tb)) zH ?_; simp only [lp]
        refine wpAnyH_ready (rs := [21]) (by kernel_rfl) (by simp) (AllReadyH.cons rfl (fun K hK => ?_) AllReadyH.nil)
        have hK' := hid hK
        clear hK
        rw [if_pos (by kernel_rfl)]
        simp only [ly1, ly2, ly3]
        go_simp
        refine (hJk.out _).mono ?_
        rintro e W3 ⟨rfl, hb⟩
        have hK3 := zon hb hK2
        have hG3 := zon hb hG2
        have hB3 := zup hb hB2
        clear hb hK2 hG2 hB2
        refine hK'.out _ _ (by exact ⟨hK3.out, hab.out _ _ (by omega) hG3.out⟩) (fun zH => ?_)
        clear hK' K
        refine tkx 22 (.pointer (some ⟨g, k, none⟩)) zH ?_; simp only [lp]
        refine wpAnyH_ready (rs := [23]) (by kernel_rfl) (by simp) (AllReadyH.cons rfl (fun K hK => ?_) AllReadyH.nil)
        have hK' := hid hK
        clear hK
        rw [if_pos (by kernel_rfl)]
        simp only [ly1, ly2, ly3]
        have cg := hG3.out.c k (.string ⟨#[]⟩) (by rw [nodeC_at hkN, if_neg (Nat.lt_irrefl k)])
        have fg := hG3.out.frozen k
        go_simp
        generalize hXy : World.setCell _ _ _ = W4
        have hXx : W3.setCells g k [.string (txt (nd k))] = W4 := hXy
        have hG4 := hid (show Holds W4 g 9 (nodeC nd n j) from by rw [← nodeC_set nd n j, hkj, ← hXy]; exact Holds.set hG3.out k _)
        clear cg fg
        have hK4 := hid (holds_far hK3.out (by omega) hXx)
        have hB4 := hid (below_put hB3.out (by omega) hXx)
        clear hXx hXy
        refine hK'.out _ _ (by exact ⟨hK4.out, hab.out _ _ (by omega) hG4.out⟩) (fun zH => ?_)
        clear hK' K
        refine wpAnyH_done (by kernel_rfl) ?_ _
        go_wp2_with fail
        go_roundw
        case rel => exact ⟨j, by omega, by go_num, hK4.out, hG4.out, hB4.out⟩
        case measure => simp [intOf]; omega

end Go.Proofs.YtmfajekfipfjpaaGreat
namespace Go.Proofs.YtmfajekfipfjpaaGreat
open Go.RowKit
open Go.Lib (strCells strCells_length strCells_oneCell)
attribute [local irreducible] Sha.compress Sha.blocks Sha.sha Sha.pad

set_option maxHeartbeats 2000000 in
theorem rLmsPublic_good (p : Ots.Par) (kd h : Nat) (hpar : Ots.par (kd : Int) = some p) (h1 : 1 ≤ h) (h5 : h ≤ 5) (id seed : ByteArray) (hi16 : id.size = 16) (hs32 : seed.size = 32) (nx : Int) (hok : keyOk (kd : Int) (h : Int) id seed nx = true) (w : World) : Calls Tryz.prog 18 #[.agg #[.int .i64 (kd : Int), .int .i64 (h : Int), .string id, .string seed, .int .i64 nx]] w fun e w' => e = .returned (.tuple #[.string (pubT p kd h id seed), .int .i64 0]) ∧ Below w.heap.size w w' := by
  obtain ⟨kc, hkc⟩ : ∃ kc, keyC (kd : Int) (h : Int) id seed nx = kc := ⟨_, rfl⟩
  have hW0' := hid (show w.alloc (.cells #[.int .i64 (kd : Int), .int .i64 (h : Int), .string id, .string seed, .int .i64 nx] 39) = w.alloc (.cells kc.toArray 39) from by rw [← hkc]; rfl)
  obtain ⟨W0, hW0⟩ : ∃ W0, w.alloc (.cells kc.toArray 39) = W0 := ⟨_, rfl⟩
  have hK0 := hid (show Holds W0 w.heap.size 39 kc from by rw [← hW0]; exact Holds.new _ _ kc.toArray)
  have hB0 := hid (show Below w.heap.size w W0 from by rw [← hW0]; exact (Below.refl _ _).alloc (Nat.le_refl _) _)
  have hCk := hid (show (Tryz.prog.info? 39).map (·.size) = some kc.toArray.size ∧ (Tryz.prog.info? 39).map (·.size) = some kc.length from by rw [← hkc]; exact ⟨sizeKey, sizeKey⟩)
  have hmy := hid (fun W => show Calls Tryz.prog 32 #[.agg kc.toArray] W fun e w' => e = .returned (.bool (keyOk (kd : Int) (h : Int) id seed nx)) ∧ Below W.heap.size W w' from by rw [← hkc]; exact rLmsMay_any (kd : Int) (h : Int) id seed nx W)
  rw [hok] at hmy
  rw [hW0] at hW0'
  have hkd : kd ≤ 4 := by rcases Ots.par_kind hpar with ⟨e, _⟩ | ⟨e, _⟩ <;> omega
  have hN := hid (fun W => show Calls Tryz.prog 34 #[.agg kc.toArray] W fun e w' => ∃ g, e = .returned (.slice (some ⟨g, 0, none⟩) (2 * 2 ^ h) (2 * 2 ^ h)) ∧ W.heap.size < g ∧ Holds w' g 9 (nodeC (ndOf p h id seed) (2 * 2 ^ h) 0) ∧ Below W.heap.size W w' from by rw [← hkc]; exact rNodes_any p (kd : Int) hpar h h1 h5 id seed hi16 hs32 nx W)
  have hKd := hid (fun W => rKindOf_any h (by omega) W)
  have hans := hid (pubT_eq p kd h id seed (ndOf p h id seed 1) rfl)
  have hsx : (txt (ndOf p h id seed 1)).size = 32 := by rw [txt_size]; exact ndOf_len _ _ _ _ _
  obtain ⟨t, ht⟩ : ∃ t, Lms.typ h = t := ⟨_, rfl⟩
  have ht4 : t < 4294967296 := by rw [← ht]; exact Lms.typ_lt h h5
  rw [ht] at hKd hans
  have hBt := hid (fun W => Be_any (t : Int) 4 4 rfl (by decide) t rfl (by omega) W)
  have hBk := hid (fun W => Be_any (kd : Int) 4 4 rfl (by decide) kd rfl (by omega) W)
  obtain ⟨bt, hbt⟩ : ∃ b, be 4 t = b := ⟨_, rfl⟩
  obtain ⟨bk, hbk⟩ : ∃ b, be 4 kd = b := ⟨_, rfl⟩
  have st : bt.size = 4 := by rw [← hbt, be_size]
  have sk : bk.size = 4 := by rw [← hbk, be_size]
  rw [hbt] at hBt hans
  rw [hbk] at hBk hans
  obtain ⟨n, hn⟩ : ∃ n, 2 * 2 ^ h = n := ⟨_, rfl⟩
  have hn1 : 1 < n := by have := Nat.pow_pos (n := h) (show 0 < 2 by decide); omega
  obtain ⟨tx, htx⟩ : ∃ tx, txt (ndOf p h id seed 1) = tx := ⟨_, rfl⟩
  have g1 := hid (show (nodeC (ndOf p h id seed) n 0)[1]? = some (.string tx) from by rw [← htx]; exact nodeC_got hn1 (by decide))
  rw [htx] at hans hsx
  rw [hn] at hN
  obtain ⟨rc, hrc⟩ : ∃ rc, nodeC (ndOf p h id seed) n 0 = rc := ⟨_, rfl⟩
  rw [hrc] at hN g1
  have z1 : bt.size + bk.size ≤ 9223372036854775807 := by omega
  have z2 : bt.size + bk.size + id.size ≤ 9223372036854775807 := by omega
  have z3 : bt.size + bk.size + id.size + tx.size ≤ 9223372036854775807 := by omega
  have hn1i : (1 : Int) < (n : Int) := by omega
  have k0 := hid (show kc[0]? = some (.int .i64 (kd : Int)) from by rw [← hkc]; rfl)
  have k1 := hid (show kc[1]? = some (.int .i64 (h : Int)) from by rw [← hkc]; rfl)
  have k2 := hid (show kc[2]? = some (.string id) from by rw [← hkc]; rfl)
  clear hW0 hkc hok hpar ht hbt hbk hn htx hrc st sk hsx hi16 hs32 ht4 hkd
  go_enter Tryz.func18, Tryz.ntmps18
  go_wp2_with (first
    | ((with_reducible refine at_slot (some 1) ?_); refine wpList_run rfl (.pointer (some ⟨w.heap.size, 0, none⟩)) (w.alloc (.cells #[.int .i64 (kd : Int), .int .i64 (h : Int), .string id, .string seed, .int .i64 nx] 39)) (by kernel_rfl) ?_; rw [hW0'.out])
    | ((with_reducible refine at_slot (some 4) ?_); refine wpList_load_mid rfl 39 (.tmp 1) rfl w.heap.size 0 rfl kc _ (by exact h_all hK0.out) Tryz.underlying39 rfl (by exact hCk.out.2) ?_)
    | fail)
  refine (hmy.out _).mono ?_
  rintro e W1 ⟨rfl, hb⟩
  have hB1 := zup hb hB0
  have hK1 := zon hb hK0
  clear hb hK0 hB0
  go_wp2_with fail
  have hb : Below W1.heap.size W1 W1.drew := (Below.refl _ _).drew
  have hK2 := zon hb hK1
  have hB2 := zup hb hB1
  clear hb hK1 hB1
  refine wp_region_held_drew (S := fun V => Holds V w.heap.size 39 kc) (by kernel_rfl) (by exact hK2.out) (fun zH => ?_)
  generalize W1.drew = W2 at *
  refine tkx 0 (.pointer (some ⟨w.heap.size, 1, none⟩)) zH ?_; simp only [lp]
  refine tkx 1 (.int .i64 (h : Int)) zH ?_ (hy := .inl ⟨by kernel_rfl, fun V hS => by have c1 := hS.c 1 _ k1.out; go_simp⟩); simp only [lp]
  refine tkx 4 (.pointer (some ⟨w.heap.size, 0, none⟩)) zH ?_; simp only [lp]
  refine tkx 5 (.int .i64 (kd : Int)) zH ?_ (hy := .inl ⟨by kernel_rfl, fun V hS => by have c0 := hS.c 0 _ k0.out; go_simp⟩); simp only [lp]
  refine tkx 8 (.pointer (some ⟨w.heap.size, 2, none⟩)) zH ?_; simp only [lp]
  refine tkx 9 (.string id) zH ?_ (hy := .inl ⟨by kernel_rfl, fun V hS => by have c2 := hS.c 2 _ k2.out; go_simp⟩); simp only [lp]
  refine tkx 11 (.agg kc.toArray) zH ?_ (hy := yieldsIf_load_mid (by kernel_rfl) _ _ rfl _ _ rfl _ _ (fun V hS => h_all hS) Tryz.underlying39 rfl (by exact hCk.out.2)); simp only [lp]
  refine wpAnyH_ready (rs := [2]) (by kernel_rfl) (by simp) (AllReadyH.cons rfl (fun K hK => ?_) AllReadyH.nil)
  have hK' := hid hK
  clear hK
  rw [if_pos (by kernel_rfl)]
  simp only [ly1, ly2, ly3]
  go_simp
  refine (hKd.out _).mono ?_
  rintro e w' ⟨rfl, rfl⟩
  refine hK'.out _ _ (by exact hK2.out) (fun zH => ?_)
  clear hK' K
  refine wpAnyH_ready (rs := [3]) (by kernel_rfl) (by simp) (AllReadyH.cons rfl (fun K hK => ?_) AllReadyH.nil)
  have hK' := hid hK
  clear hK
  rw [if_pos (by kernel_rfl)]
  simp only [ly1, ly2, ly3]
  go_simp
  refine (hBt.out _).mono ?_
  rintro e W3 ⟨rfl, hb⟩
  have hK3 := zon hb hK2
  have hB3 := zup hb hB2
  clear hb hK2 hB2
  refine hK'.out _ _ (by exact hK3.out) (fun zH => ?_)
  clear hK' K
  refine wpAnyH_ready (rs := [6]) (by kernel_rfl) (by simp) (AllReadyH.cons rfl (fun K hK => ?_) AllReadyH.nil)
  have hK' := hid hK
  clear hK
  rw [if_pos (by kernel_rfl)]
  simp only [ly1, ly2, ly3]
  go_simp
  refine (hBk.out _).mono ?_
  rintro e W4 ⟨rfl, hb⟩
  have hK4 := zon hb hK3
  have hB4 := zup hb hB3
  clear hb hK3 hB3
  refine hK'.out _ _ (by exact hK4.out) (fun zH => ?_)
  clear hK' K
  refine tkx 7 (.string (bt ++ bk)) zH ?_; simp only [lp]
  refine tkx 10 (.string (bt ++ bk ++ id)) zH ?_; simp only [lp]
  refine wpAnyH_ready (rs := [12]) (by kernel_rfl) (by simp) (AllReadyH.cons rfl (fun K hK => ?_) AllReadyH.nil)
  have hK' := hid hK
  clear hK
  rw [if_pos (by kernel_rfl)]
  simp only [ly1, ly2, ly3]
  go_simp
  refine (hN.out _).mono ?_
  rintro e W5 ⟨g, rfl, hgw, hgr, hb⟩
  have hK5 := zon hb hK4
  have hB5 := zup hb hB4
  have hG5 := hid hgr
  clear hb hK4 hB4 hgr hgw
  refine hK'.out _ _ (by exact hK5.out) (fun zH => ?_)
  clear hK' K
  refine tkx 13 (.pointer (some ⟨g, 1, none⟩)) zH ?_; simp only [lp]
  refine wpAnyH_ready (rs := [14]) (by kernel_rfl) (by simp) (AllReadyH.cons rfl (fun K hK => ?_) AllReadyH.nil)
  have hK' := hid hK
  clear hK
  rw [if_pos (by kernel_rfl)]
  simp only [ly1, ly2, ly3]
  have cg := hG5.out.c 1 _ g1.out
  go_simp
  refine hK'.out _ _ (by exact hK5.out) (fun zH => ?_)
  clear hK' K
  refine tkx 15 (.string (bt ++ bk ++ id ++ tx)) zH ?_; simp only [lp]
  refine tkx 16 (.string (bt ++ bk ++ id ++ tx)) zH ?_; simp only [lp]
  refine tkx 17 (.int .i64 0) zH ?_; simp only [lp]
  refine wpAnyH_done (by kernel_rfl) ?_ _
  go_wp2_with fail
  go_ret2
  exact ⟨by rw [hans.out]; rfl, hB5.out⟩

end Go.Proofs.YtmfajekfipfjpaaGreat
namespace Go.Proofs.YtmfajekfipfjpaaGreat
open Go.RowKit
open Go.Lib (strCells strCells_length strCells_oneCell)
attribute [local irreducible] Sha.compress Sha.blocks Sha.sha Sha.pad

/-- A text, grown by parts. -/
def outS (b : ByteArray) (f : Nat → ByteArray) : Nat → ByteArray
  | 0 => b
  | i + 1 => outS b f i ++ f i
theorem outS_list (b : ByteArray) (g : Nat → List UInt8) : ∀ i, (outS b (fun t => txt (g t)) i).data.toList = b.data.toList ++ ((List.range i).map g).flatten
  | 0 => by simp [outS]
  | i + 1 => by rw [outS, txt_append, outS_list b g i, Ots.flat_next, List.append_assoc]
theorem outS_size (b : ByteArray) (f : Nat → ByteArray) (hf : ∀ t, (f t).size = 32) : ∀ i, (outS b f i).size = b.size + 32 * i
  | 0 => rfl
  | i + 1 => by rw [outS, ByteArray.size_append, outS_size b f hf i, hf]; omega

set_option maxHeartbeats 4000000 in
theorem rLmsSign_good (p : Ots.Par) (kd h q : Nat) (hpar : Ots.par (kd : Int) = some p) (h1 : 1 ≤ h) (h5 : h ≤ 5) (id seed : ByteArray) (hi16 : id.size = 16) (hs32 : seed.size = 32) (hq : q < 2 ^ h) (hok : keyOk (kd : Int) (h : Int) id seed (q : Int) = true) (msg : ByteArray) (hm : msg.size ≤ 65536) (w : World) : Calls Tryz.prog 24 #[.agg #[.int .i64 (kd : Int), .int .i64 (h : Int), .string id, .string seed, .int .i64 (q : Int)], .string msg] w fun e w' => e = .returned (.tuple #[.string (sigT p kd h id seed q msg), .agg (keyC (kd : Int) (h : Int) id seed ((q + 1 : Nat) : Int)).toArray, .int .i64 0]) ∧ Below w.heap.size w w' := by
  obtain ⟨kc, hkc⟩ : ∃ kc, keyC (kd : Int) (h : Int) id seed (q : Int) = kc := ⟨_, rfl⟩
  have hA' := hid (show w.alloc (.cells #[.int .i64 (kd : Int), .int .i64 (h : Int), .string id, .string seed, .int .i64 (q : Int)] 39) = w.alloc (.cells kc.toArray 39) from by rw [← hkc]; rfl)
  obtain ⟨WA, hWA⟩ : ∃ WA, w.alloc (.cells kc.toArray 39) = WA := ⟨_, rfl⟩
  rw [hWA] at hA'
  have z1 : WA.heap.size = w.heap.size + 1 := by rw [← hWA]; simp
  obtain ⟨W0, hW0⟩ : ∃ W0, WA.alloc (.cells zk.toArray 39) = W0 := ⟨_, rfl⟩
  have hK0 := hid (show Holds W0 w.heap.size 39 kc from by rw [← hW0, ← hWA]; exact (Holds.new w 39 kc.toArray).alloc _)
  have hZ0 := hid (show Holds W0 (w.heap.size + 1) 39 zk from by rw [← hW0, ← z1]; exact Holds.new _ 39 zk.toArray)
  have hB0 := hid (show Below w.heap.size w W0 from by rw [← hW0, ← hWA]; exact ((Below.refl _ _).alloc (Nat.le_refl _) _).alloc (by simp) _)
  have hz := hid z1
  have hW0' := hid hW0
  have hsk := hid sizeKey
  have hCk := hid (show (Tryz.prog.info? 39).map (·.size) = some kc.toArray.size ∧ (Tryz.prog.info? 39).map (·.size) = some kc.length from by rw [← hkc]; exact ⟨sizeKey, sizeKey⟩)
  have hmy := hid (fun W => show Calls Tryz.prog 32 #[.agg kc.toArray] W fun e w' => e = .returned (.bool (keyOk (kd : Int) (h : Int) id seed (q : Int))) ∧ Below W.heap.size W w' from by rw [← hkc]; exact rLmsMay_any (kd : Int) (h : Int) id seed (q : Int) W)
  rw [hok] at hmy
  clear hW0 hWA z1 hok
  have k0 := hid (show kc[0]? = some (.int .i64 (kd : Int)) from by rw [← hkc]; rfl)
  have k1 := hid (show kc[1]? = some (.int .i64 (h : Int)) from by rw [← hkc]; rfl)
  have k2 := hid (show kc[2]? = some (.string id) from by rw [← hkc]; rfl)
  have k3 := hid (show kc[3]? = some (.string seed) from by rw [← hkc]; rfl)
  have k4 := hid (show kc[4]? = some (.int .i64 (q : Int)) from by rw [← hkc]; rfl)
  have hmi : ¬ (65536 : Int) < (msg.size : Int) := by omega
  have hp5 : 2 ^ h ≤ 32 := Nat.le_trans (Nat.pow_le_pow_right (by decide) h5) (by decide)
  have hpw : 2 ^ (h + 1) = 2 * 2 ^ h := by rw [Nat.pow_succ, Nat.mul_comm]
  have hsd := hid (fun i (hi : i < h) => Lms.sides_in h q i hq hi)
  obtain ⟨R, hR⟩ : ∃ R, 2 ^ h + q = R := ⟨_, rfl⟩
  rw [hR] at hsd
  have hR1 : 2 ^ h ≤ R := by omega
  have hR2 : R < 2 ^ (h + 1) := by omega
  have hRw := IntWalk.i64_in (R : Int) (by omega)
  have hqw := IntWalk.i64_in ((q : Int) + 1) (by omega)
  obtain ⟨Z, hZ⟩ : ∃ Z : Int, ((2 ^ h : Nat) : Int) = Z := ⟨_, rfl⟩
  have hZw : IntKind.i64.wrap (2 ^ h) = Z := (shl_wrap h h5).trans hZ
  have hm64 : min h 64 = h := by omega
  have hZe : ((q : Int) == Z) = false := by rw [beq_eq_false_iff_ne]; omega
  have hZR : Z + (q : Int) = (R : Int) := by omega
  have hkd : kd ≤ 4 := by rcases Ots.par_kind hpar with ⟨e, _⟩ | ⟨e, _⟩ <;> omega
  have hp100 : p.p ≤ 67 := par_p hpar
  obtain ⟨once, honce⟩ : ∃ s, txt (Ots.sign p kd (Ots.head id.data.toList q) seed.data.toList msg.data.toList) = s := ⟨_, rfl⟩
  have hson : once.size ≤ 3000 := by rw [← honce, txt_size, Ots.sign_len Ots.sha32]; omega
  have hsg := hid (fun W => show Calls Tryz.prog 47 #[.int .i64 (kd : Int), .string id, .int .i64 (q : Int), .string seed, .string msg] W fun e w' => e = .returned (.tuple #[.string once, .int .i64 0]) ∧ Below W.heap.size W w' from by
    have hg : otsGood (kd : Int) (q : Int) id seed = some p := by
      unfold otsGood
      rw [hpar]
      exact if_pos ⟨by unfold Ots.may; rw [decide_eq_true ⟨hi16, by omega, by omega⟩], hs32⟩
    rw [← honce]
    exact rSign_good (kd : Int) (q : Int) id seed msg p hg hm W)
  have hN := hid (fun W => show Calls Tryz.prog 34 #[.agg kc.toArray] W fun e w' => ∃ g, e = .returned (.slice (some ⟨g, 0, none⟩) (2 * 2 ^ h) (2 * 2 ^ h)) ∧ W.heap.size < g ∧ Holds w' g 9 (nodeC (ndOf p h id seed) (2 * 2 ^ h) 0) ∧ Below W.heap.size W w' from by rw [← hkc]; exact rNodes_any p (kd : Int) hpar h h1 h5 id seed hi16 hs32 (q : Int) W)
  have hKd := hid (fun W => rKindOf_any h (by omega) W)
  obtain ⟨t, ht⟩ : ∃ t, Lms.typ h = t := ⟨_, rfl⟩
  have ht4 : t < 4294967296 := by rw [← ht]; exact Lms.typ_lt h h5
  rw [ht] at hKd
  have hBt := hid (fun W => Be_any (t : Int) 4 4 rfl (by decide) t rfl (by omega) W)
  have hBq := hid (fun W => Be_any (q : Int) 4 4 rfl (by decide) q rfl (by omega) W)
  obtain ⟨bt, hbt⟩ : ∃ b, be 4 t = b := ⟨_, rfl⟩
  obtain ⟨bq, hbq⟩ : ∃ b, be 4 q = b := ⟨_, rfl⟩
  have st : bt.size = 4 := by rw [← hbt, be_size]
  have sq : bq.size = 4 := by rw [← hbq, be_size]
  rw [hbt] at hBt
  rw [hbq] at hBq
  obtain ⟨n, hn⟩ : ∃ n, 2 * 2 ^ h = n := ⟨_, rfl⟩
  obtain ⟨nd, hnd⟩ : ∃ nd, ndOf p h id seed = nd := ⟨_, rfl⟩
  have hnl : ∀ r, (txt (nd r)).size = 32 := fun r => by rw [txt_size, ← hnd]; exact ndOf_len p h id seed r
  rw [hn, hnd] at hN
  obtain ⟨so, hso⟩ : ∃ so, outS (bq ++ once ++ bt) (fun i => txt (nd (sideN R i))) = so := ⟨_, rfl⟩
  have so0 := hid (show bq ++ once ++ bt = so 0 from by rw [← hso]; rfl)
  have soS := hid (fun i => show so i ++ txt (nd (sideN R i)) = so (i + 1) from by rw [← hso]; rfl)
  have soZ := hid (fun i => show (so i).size = bq.size + once.size + bt.size + 32 * i from by rw [← hso, outS_size _ _ (fun t => hnl _) i, ByteArray.size_append, ByteArray.size_append])
  have hans := hid (show so h = sigT p kd h id seed q msg from by
    apply ba_ext
    rw [← hso, outS_list (bq ++ once ++ bt) (fun i => nd (sideN R i)) h]
    unfold sigT Lms.signL
    rw [txt_list, Lms.path_at _ _ h h 0 _ (Nat.add_zero _) (by omega) (by rw [hR]; exact hR2), hR, ← hbq, ← hbt, ← honce, ← ht, ← hnd, data_append, data_append, txt_list]
    rfl)
  have z1 : bq.size + once.size ≤ 9223372036854775807 := by omega
  have z2 : bq.size + once.size + bt.size ≤ 9223372036854775807 := by omega
  have hnl' := hid hnl
  have hst := hid (show bq.size + once.size + bt.size ≤ 4000 from by omega)
  have hR1' := hid hR1
  have hR2' := hid hR2
  have hnn := hid (show n = 2 ^ (h + 1) ∧ n ≤ 64 from by omega)
  obtain ⟨kc2, hkc2⟩ : ∃ k, kc.set 4 (.int .i64 ((q : Int) + 1)) = k := ⟨_, rfl⟩
  have hk2' := hid (show keyC (kd : Int) (h : Int) id seed ((q + 1 : Nat) : Int) = kc2 from by rw [← hkc2, ← hkc]; rfl)
  have hk2l : kc2.length = 5 := by rw [← hkc2, ← hkc]; rfl
  have hk2o := hid (show kc2.toArray.all (·.oneCell') = true from by rw [← hk2'.out]; exact keyC_one _ _ _ _ _)
  have hk2s := hid (show (Tryz.prog.info? 39).map (·.size) = some kc2.toArray.size ∧ (Tryz.prog.info? 39).map (·.size) = some kc2.length from by rw [← hk2'.out]; exact ⟨sizeKey, sizeKey⟩)
  have hkc2' := hid hkc2
  clear hkc hpar hi16 hs32 hq hm hp5 hpw hR hR1 hR2 hZ hp100 honce hson ht ht4 hbt hbq st sq hn hnd hnl hso hkc2 hkd
  go_enter Tryz.func24, Tryz.ntmps24
  go_wp2_with (first
    | ((with_reducible refine at_slot (some 2) ?_); refine wpList_run rfl (.pointer (some ⟨w.heap.size, 0, none⟩)) (w.alloc (.cells #[.int .i64 (kd : Int), .int .i64 (h : Int), .string id, .string seed, .int .i64 (q : Int)] 39)) (by kernel_rfl) ?_; rw [hA'.out])
    | ((with_reducible refine at_slot (some 5) ?_); refine wpList_run rfl (.pointer (some ⟨WA.heap.size, 0, none⟩)) (WA.alloc (.cells zk.toArray 39)) (by kernel_rfl) ?_; rw [hW0'.out, hz.out])
    | ((with_reducible refine at_slot (some 13) ?_); refine wpList_load_mid rfl 39 (.tmp 2) rfl w.heap.size 0 rfl kc _ (by exact h_all hK0.out) Tryz.underlying39 rfl (by exact hCk.out.2) ?_)
    | fail)
  refine (hmy.out _).mono ?_
  rintro e W1 ⟨rfl, hb⟩
  have hB1 := zup hb hB0
  have hK1 := zon hb hK0
  have hZ1 := zon hb hZ0
  clear hb hK0 hB0 hZ0
  go_wp2_with fail
  have hb : Below W1.heap.size W1 W1.drew := (Below.refl _ _).drew
  have hK2 := zon hb hK1
  have hZ2 := zon hb hZ1
  have hB2 := zup hb hB1
  clear hb hK1 hZ1 hB1
  refine wp_region_held_drew (S := fun V => Holds V w.heap.size 39 kc) (by kernel_rfl) (by exact hK2.out) (fun zH => ?_)
  generalize W1.drew = W2 at *
  refine tkx 0 (.pointer (some ⟨w.heap.size, 4, none⟩)) zH ?_; simp only [lp]
  refine tkx 1 (.int .i64 (q : Int)) zH ?_ (hy := .inl ⟨by kernel_rfl, fun V hS => by have c4 := hS.c 4 _ k4.out; go_simp⟩); simp only [lp]
  refine tkx 2 (.pointer (some ⟨w.heap.size, 1, none⟩)) zH ?_; simp only [lp]
  refine tkx 3 (.int .i64 (h : Int)) zH ?_ (hy := .inl ⟨by kernel_rfl, fun V hS => by have c1 := hS.c 1 _ k1.out; go_simp⟩); simp only [lp]
  refine tkx 4 (.int .i64 Z) zH ?_; simp only [lp]
  refine tkx 5 (.bool false) zH ?_; simp only [lp]
  refine tkx 6 (.bool false) zH ?_; simp only [lp]
  refine wpAnyH_done (by kernel_rfl) ?_ _
  have c0 := hK2.out.c 0 _ k0.out
  have c2 := hK2.out.c 2 _ k2.out
  have c3 := hK2.out.c 3 _ k3.out
  have c4 := hK2.out.c 4 _ k4.out
  go_wp2_with fail
  refine (hsg.out _).mono ?_
  rintro e W3 ⟨rfl, hb⟩
  have hK3 := zon hb hK2
  have hZ3 := zon hb hZ2
  have hB3 := zup hb hB2
  clear hb hK2 hZ2 hB2 c0 c2 c3 c4
  go_wp2_with fail
  have hb : Below W3.heap.size W3 W3.drew := (Below.refl _ _).drew
  have hK4 := zon hb hK3
  have hZ4 := zon hb hZ3
  have hB4 := zup hb hB3
  clear hb hK3 hZ3 hB3
  refine wp_region_held_drew (S := fun V => Holds V w.heap.size 39 kc) (by kernel_rfl) (by exact hK4.out) (fun zH => ?_)
  generalize W3.drew = W4 at *
  refine tkx 0 (.pointer (some ⟨w.heap.size, 4, none⟩)) zH ?_; simp only [lp]
  refine tkx 1 (.int .i64 (q : Int)) zH ?_ (hy := .inl ⟨by kernel_rfl, fun V hS => by have c4 := hS.c 4 _ k4.out; go_simp⟩); simp only [lp]
  refine tkx 3 (.string once) zH ?_; simp only [lp]
  refine tkx 5 (.pointer (some ⟨w.heap.size, 1, none⟩)) zH ?_; simp only [lp]
  refine tkx 6 (.int .i64 (h : Int)) zH ?_ (hy := .inl ⟨by kernel_rfl, fun V hS => by have c1 := hS.c 1 _ k1.out; go_simp⟩); simp only [lp]
  refine wpAnyH_ready (rs := [2]) (by kernel_rfl) (by simp) (AllReadyH.cons rfl (fun K hK => ?_) AllReadyH.nil)
  have hK' := hid hK
  clear hK
  rw [if_pos (by kernel_rfl)]
  simp only [ly1, ly2, ly3]
  go_simp
  refine (hBq.out _).mono ?_
  rintro e W5 ⟨rfl, hb⟩
  have hK5 := zon hb hK4
  have hZ5 := zon hb hZ4
  have hB5 := zup hb hB4
  clear hb hK4 hZ4 hB4
  refine hK'.out _ _ (by exact hK5.out) (fun zH => ?_)
  clear hK' K
  refine tkx 4 (.string (bq ++ once)) zH ?_; simp only [lp]
  refine wpAnyH_ready (rs := [7]) (by kernel_rfl) (by simp) (AllReadyH.cons rfl (fun K hK => ?_) AllReadyH.nil)
  have hK' := hid hK
  clear hK
  rw [if_pos (by kernel_rfl)]
  simp only [ly1, ly2, ly3]
  go_simp
  refine (hKd.out _).mono ?_
  rintro e w' ⟨rfl, rfl⟩
  refine hK'.out _ _ (by exact hK5.out) (fun zH => ?_)
  clear hK' K
  refine wpAnyH_ready (rs := [8]) (by kernel_rfl) (by simp) (AllReadyH.cons rfl (fun K hK => ?_) AllReadyH.nil)
  have hK' := hid hK
  clear hK
  rw [if_pos (by kernel_rfl)]
  simp only [ly1, ly2, ly3]
  go_simp
  refine (hBt.out _).mono ?_
  rintro e W6 ⟨rfl, hb⟩
  have hK6 := zon hb hK5
  have hZ6 := zon hb hZ5
  have hB6 := zup hb hB5
  clear hb hK5 hZ5 hB5
  refine hK'.out _ _ (by exact hK6.out) (fun zH => ?_)
  clear hK' K
  refine tkx 9 (.string (bq ++ once ++ bt)) zH ?_; simp only [lp]
  refine tkx 10 (.string (bq ++ once ++ bt)) zH ?_; simp only [lp]
  refine wpAnyH_done (by kernel_rfl) ?_ _
  go_wp2_with (first
    | ((with_reducible refine at_slot (some 53) ?_); refine wpList_load_mid rfl 39 (.tmp 2) rfl w.heap.size 0 rfl kc _ (by exact h_all hK6.out) Tryz.underlying39 rfl (by exact hCk.out.2) ?_)
    | fail)
  refine (hN.out _).mono ?_
  rintro e W7 ⟨g, rfl, hgw, hgr, hb⟩
  have hK7 := zon hb hK6
  have hZ7 := zon hb hZ6
  have hB7 := zup hb hB6
  have hG7 := hid hgr
  clear hb hK6 hZ6 hB6 hgr
  skip
  go_wp2_with fail
  have hb : Below W7.heap.size W7 W7.drew := (Below.refl _ _).drew
  have hK8 := zon hb hK7
  have hZ8 := zon hb hZ7
  have hB8 := zup hb hB7
  have hG8 := zon hb hG7
  clear hb hK7 hZ7 hB7 hG7
  refine wp_region_held_drew (S := fun V => Holds V w.heap.size 39 kc) (by kernel_rfl) (by exact hK8.out) (fun zH => ?_)
  generalize W7.drew = W8 at *
  refine tkx 0 (.pointer (some ⟨w.heap.size, 1, none⟩)) zH ?_; simp only [lp]
  refine tkx 1 (.int .i64 (h : Int)) zH ?_ (hy := .inl ⟨by kernel_rfl, fun V hS => by have c1 := hS.c 1 _ k1.out; go_simp⟩); simp only [lp]
  refine tkx 2 (.int .i64 Z) zH ?_; simp only [lp]
  refine tkx 3 (.pointer (some ⟨w.heap.size, 4, none⟩)) zH ?_; simp only [lp]
  refine tkx 4 (.int .i64 (q : Int)) zH ?_ (hy := .inl ⟨by kernel_rfl, fun V hS => by have c4 := hS.c 4 _ k4.out; go_simp⟩); simp only [lp]
  refine tkx 5 (.int .i64 (R : Int)) zH ?_; simp only [lp]
  refine tkx 6 (.int .i64 (R : Int)) zH ?_; simp only [lp]
  refine wpAnyH_done (by kernel_rfl) ?_ _
  go_wp2_with fail
  rw [so0.out]
  go_loopw [9, 11] (fun out r wr => ∃ i u : Nat, i ≤ h ∧ out = .string (so i) ∧ r = .int .i64 (u : Int) ∧ Hid (u = R / 2 ^ i) ∧ 2 ^ (h - i) ≤ u ∧ u < 2 ^ (h - i + 1) ∧ wr = W8) (fun _ r _ => (intOf r).toNat)
  case atStart => exact ⟨0, R, Nat.zero_le _, rfl, rfl, hid (by rw [Nat.pow_zero, Nat.div_one]), by rw [Nat.sub_zero]; exact hR1'.out, by rw [Nat.sub_zero]; exact hR2'.out, rfl⟩
  case round =>
    obtain ⟨i, u, hi, rfl, rfl, hu', hu1, hu2, rfl⟩ := hrel
    have hu64 : u < 64 := by
      have := Nat.pow_le_pow_right (show 0 < 2 by decide) (show h - i + 1 ≤ h + 1 by omega)
      have := hnn.out
      omega
    by_cases h1 : 1 < u
    · have h1i : (1 : Int) < (u : Int) := by omega
      have hih : i < h := by
        rcases Nat.eq_or_lt_of_le hi with rfl | h2
        · rw [Nat.sub_self] at hu2
          simp at hu2
          omega
        · exact h2
      have hp : 2 ^ (h - i) = 2 * 2 ^ (h - (i + 1)) := by
        rw [show h - i = (h - (i + 1)) + 1 from by omega, Nat.pow_succ, Nat.mul_comm]
      have hp2 : 2 ^ (h - i + 1) = 2 * 2 ^ (h - i) := by rw [Nat.pow_succ 2 (h - i), Nat.mul_comm]
      have hp3 : 2 ^ (h - (i + 1) + 1) = 2 ^ (h - i) := by rw [show h - (i + 1) + 1 = h - i from by omega]
      have hx := xor_one u hu64
      obtain ⟨v, hv⟩ : ∃ v, u / 2 = v := ⟨_, rfl⟩
      have hv1 : 2 ^ (h - (i + 1)) ≤ v := by omega
      have hv2 : v < 2 ^ (h - (i + 1) + 1) := by omega
      have htd : (u : Int).tdiv 2 = (v : Int) := by rw [Int.tdiv_eq_ediv_of_nonneg (by omega)]; omega
      have hvw := IntWalk.i64_in (v : Int) (by omega)
      have hvv := hid (show v = R / 2 ^ (i + 1) from by rw [← hv, hu'.out, Nat.pow_succ, Nat.div_div_eq_div_mul])
      have hsi := hsd.out i hih
      rw [← hu'.out] at hsi
      obtain ⟨ot, hot⟩ : ∃ ot, Lms.other u = ot := ⟨_, rfl⟩
      rw [hot] at hx hsi
      have hson : sideN R i = ot := by unfold sideN; rw [← hu'.out, hot]
      have hsx := soS.out i
      rw [hson] at hsx
      have hzz := hnl'.out ot
      have hzi := soZ.out i
      have hso2 : (so i).size + (txt (nd ot)).size ≤ 9223372036854775807 := by have := hst.out; omega
      have hotn : ot < n := by have := hnn.out; omega
      have hot1 : (ot : Int) < (n : Int) := by omega
      have hot0 : (0 : Int) ≤ (ot : Int) := by omega
      have cg := hG8.out.c ot (.string (txt (nd ot))) (nodeC_got hotn (by omega))
      have hsx' := hid hsx
      have hvlt : v < u := by omega
      have hvp := hid (And.intro hv1 hv2)
      clear hv hp hp2 hp3 hot hsi hson hsx hzz hzi hotn hu1 hu2 hv1 hv2
      generalize txt (nd ot) = tx at *
      go_wp2_with fail
      rw [hsx'.out]
      go_roundw
      case rel => exact ⟨i + 1, v, hih, rfl, rfl, hvv, hvp.out.1, hvp.out.2, trivial⟩
      case measure => simp [intOf]; omega
    · have h1i : ¬ (1 : Int) < (u : Int) := by omega
      have hih : i = h := by
        rcases Nat.eq_or_lt_of_le hi with h2 | h2
        · exact h2
        · have hp : 2 ^ (h - i) = 2 * 2 ^ (h - (i + 1)) := by
            rw [show h - i = (h - (i + 1)) + 1 from by omega, Nat.pow_succ, Nat.mul_comm]
          have := Nat.pow_pos (n := h - (i + 1)) (show 0 < 2 by decide)
          omega
      rw [hih, hans.out]
      have c4 := hK8.out.c 4 _ k4.out
      have f4 := hK8.out.frozen 4
      obtain ⟨V7, hV7⟩ : ∃ V7, wr.setCell ⟨w.heap.size, 4, none⟩ (.int .i64 ((q : Int) + 1)) = V7 := ⟨_, rfl⟩
      have hV7' := hid hV7
      have hX7 : wr.setCells w.heap.size 4 [.int .i64 ((q : Int) + 1)] = V7 := hV7
      have hK20 := hid (show Holds V7 w.heap.size 39 kc2 from by rw [← hkc2'.out, ← hV7]; exact hK8.out.set 4 _)
      have hZ20 := hid (holds_far hZ8.out (by omega) hX7)
      have hB20 := hid (below_put hB8.out (Nat.le_refl _) hX7)
      clear hV7 hX7 hu1 hu2 hih
      go_wp2_with fail
      rw [hV7'.out]
      have hb : Below V7.heap.size V7 V7.drew := (Below.refl _ _).drew
      have hK21 := zon hb hK20
      have hZ21 := zon hb hZ20
      have hB21 := zup hb hB20
      clear hb hK20 hZ20 hB20
      refine wp_region_held_drew (S := fun V => Holds V w.heap.size 39 kc2) (by kernel_rfl) (by exact hK21.out) (fun zH => ?_)
      generalize V7.drew = W21 at *
      refine tkx 0 (.string (sigT p kd h id seed q msg)) zH ?_; simp only [lp]
      refine tkx 1 (.agg kc2.toArray) zH ?_ (hy := yieldsIf_load_mid (by kernel_rfl) _ _ rfl _ _ rfl _ _ (fun V hS => h_all hS) Tryz.underlying39 rfl (by exact hk2s.out.2)); simp only [lp]
      refine tkx 2 (.string (sigT p kd h id seed q msg)) zH ?_; simp only [lp]
      refine wpAnyH_ready (rs := [3]) (by kernel_rfl) (by simp) (AllReadyH.cons rfl (fun K hK => ?_) AllReadyH.nil)
      have hK' := hid hK
      clear hK
      rw [if_pos (by kernel_rfl)]
      simp only [ly1, ly2, ly3]
      refine wp_store_mid _ _ _ rfl (w.heap.size + 1) 0 kc2.toArray rfl rfl (by exact hZ21.out.there 0 _ (by rw [List.size_toArray, hk2l]; decide)) (by exact hk2s.out.1) (by exact hk2o.out) ?_
      generalize hXx : World.setCells _ _ _ _ = W22
      have hZ22 := hid (hZ21.out.over (by rw [hk2l]; rfl) hXx)
      have hK22 := hid (holds_far hK21.out (by omega) hXx)
      have hB22 := hid (below_put hB21.out (by omega) hXx)
      clear hXx
      refine hK'.out _ _ (by exact hK22.out) (fun zH => ?_)
      clear hK' K
      refine tkx 4 (.int .i64 0) zH ?_; simp only [lp]
      refine wpAnyH_done (by kernel_rfl) ?_ _
      go_wp2_with fail
      rw [show keyC (kd : Int) (h : Int) id seed ((q : Int) + 1) = kc2 from hk2'.out]
      exact bodyPost_ret (results_tct rfl _ _ (w.heap.size + 1) 39 _ (0, 0) _ _ _ rfl rfl hZ22.out rfl Tryz.underlying39 rfl (by exact hk2s.out.1)) rfl ⟨rfl, hB22.out⟩

end Go.Proofs.YtmfajekfipfjpaaGreat
