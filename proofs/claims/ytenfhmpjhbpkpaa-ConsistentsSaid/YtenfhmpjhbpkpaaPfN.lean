/- Layer 10, the reference's side: CheckInclusion, CheckConsistency.
   Layer 10: Consistency of the program; Inclusion, Consistency of the reference. -/
import Derived.Test.YtenfhmpjhbpkpaaPfK
import Derived.Test.YtenfhmpjhbpkpaaPfG
import Derived.Test.YtenfhmpjhbpkpaaPfC
namespace Go.Proofs.Ytenfhmpjhbpkpaa
open Go.RowKit
open Go.Lib (strCells strCells_length strCells_oneCell)
attribute [local irreducible] Sha.compress Sha.blocks Sha.sha Sha.pad

theorem wpList_hneq_at {ops : Array Oper} {rest : List Oper} {o : Oper} {a : Act} {w : World} {Q : Exit → Act → World → Prop} (hw : Region.wanted o (yielded ops a.tmps) = true) (x y : Operand) (ty : TypeId) (ho : o.op = .binOp .neq 28 x y ty) (C D : List UInt8) (hC : C.length = 32) (hD : D.length = 32) (hx : a.eval x = .agg (byteCells C).toArray) (hy : a.eval y = .agg (byteCells D).toArray)
    (h : wpList Try.prog ops Q rest (a.put o.dst (.bool (!(C == D)))) w) : wpList Try.prog ops Q (o :: rest) a w :=
  wpList_step fun _ hK => by
    rw [if_pos hw]
    refine wp_run (.bool (!(C == D))) w ?_ (hK _ _ h)
    have hg : ∀ x y W, (eqGuard .neq 28 x y (.agg (byteCells C).toArray) (.agg (byteCells D).toArray)).run Try.prog W = .ok () W := fun x y W => hv_guard .neq x y C D W
    simp only [execOp, ho, hx, hy, Sem.run_bind, hg, hv_neq2 C D hC hD, Result.andThen_ok, Sem.run_pure]

set_option maxRecDepth 100000 in
set_option maxHeartbeats 2000000 in
theorem rCheckInc_any (x : ByteArray) (i size : Int) (A : Option Addr) (q c : Nat) (ps : List (List UInt8)) (root : List UInt8) (B : Nat) (w : World) (hx : x.size ≤ 140737488351232) (hP : Hashs w B A q ps) (hBw : B ≤ w.heap.size) (hqc : q ≤ c) (hq9 : q ≤ 10000000000000) (hr : root.length = 32) :
    Calls Try.prog 31 #[.string x, .int .i64 i, .int .i64 size, .slice A q c, hv root] w fun e w' => e = .returned (.int .i64 (ckIncE (leafH x.data.toList) i size ps root)) ∧ Below w.heap.size w w' := by
  have hB1 := hid ((Below.refl w.heap.size w).alloc (Nat.le_refl _) (.cells (byteCells root).toArray 28))
  have hR1 := hid (Holds.new w 28 (byteCells root).toArray)
  by_cases hok : placeOk i size
  · obtain ⟨o1, o2, o3, o4⟩ := id hok
    obtain ⟨n, rfl⟩ : ∃ n : Nat, size = n := ⟨size.toNat, by omega⟩
    obtain ⟨k, rfl⟩ : ∃ n : Nat, i = n := ⟨i.toNat, by omega⟩
    have hE : ckIncE (leafH x.data.toList) k n ps root = if (Mth.climb nodeH n (leafH x.data.toList) k n ps).2 = true ∧ (Mth.climb nodeH n (leafH x.data.toList) k n ps).1 = root then 0 else 1001 := by
      unfold ckIncE
      rw [if_pos hok, Int.toNat_natCast, Int.toNat_natCast]
    obtain ⟨E, hEd⟩ : ∃ E, ckIncE (leafH x.data.toList) k n ps root = E := ⟨_, rfl⟩
    rw [hEd]
    rw [hEd] at hE
    have hlf := hid (fun W0 => rLeaf_any x W0 hx)
    have hcl := hid (fun W0 (hb : Below w.heap.size w W0) => rClimb_any n (leafH x.data.toList) k n A q c ps B W0 (leafH_len _) (hP.below (hb.mono hBw)) (Nat.le_trans hBw hb.size) hqc hq9 (by omega) (by omega) (by omega))
    have h32 := climb_len n (leafH x.data.toList) k n ps (leafH_len _)
    obtain ⟨R, hR⟩ : ∃ R, Mth.climb nodeH n (leafH x.data.toList) k n ps = R := ⟨_, rfl⟩
    rw [hR] at hE hcl h32
    have hE' := hid hE
    obtain ⟨r, ok⟩ := R
    dsimp only at h32 hcl hE'
    have hCr := hid (hash_cells root hr)
    have hCn := hid (hash_cells r h32)
    have h32' := hid h32
    have hr' := hid hr
    have c1 : ¬ (n : Int) < 1 := by omega
    have c2 : ¬ (256 : Int) < (n : Int) := by omega
    have c3 : ¬ (k : Int) < 0 := by omega
    have c4 : ¬ (n : Int) ≤ (k : Int) := by omega
    unfold hv at *
    clear hok hE hEd hP hr o1 o2 o3 o4 hR h32
    go_enter Try.func31, Try.ntmps31
    go_wp2_with fail
    refine (hlf.out _).mono ?_
    rintro e W2 ⟨rfl, hb2⟩
    have hB2 := hid (below_up hb2 hB1.out)
    have hR2 := hid (hR1.out.below hb2 (by simp))
    clear hb2
    rename_i hK1
    refine hK1 _ _ ?_
    clear hK1
    go_wp2_with fail
    refine (hcl.out _ hB2.out).mono ?_
    rintro e W3 ⟨rfl, hb3⟩
    have hB3 := hid (below_up hb3 hB2.out)
    have hR3 := hid (hR2.out.below hb3 hR2.out.lt)
    clear hb3
    cases ok
    · go_wp2_with (first
        | ((with_reducible refine at_slot (some 11) ?_); refine wpList_run rfl (.pointer (some ⟨W3.heap.size, 0, none⟩)) (W3.alloc (.cells z32 28)) (by kernel_rfl) ?_)
        | ((with_reducible refine at_slot none ?_); refine wpList_store_mid rfl 28 (.tmp 11) (.tmp 35) rfl W3.heap.size 0 (byteCells r).toArray rfl rfl (by exact hCn.out.there W3) (by exact hCn.out.size) (by exact hCn.out.one) ?_; generalize hW4 : World.setCells _ _ _ _ = W4; obtain ⟨hN4, hb4⟩ := hCn.out.new hW4; have hN4' := hid hN4; have hB4 := hid (below_up hb4 hB3.out); have hR4 := hid (hR3.out.below hb4 hR3.out.lt); clear hW4 hN4 hb4)
        | fail)
      go_ret
      exact ⟨by rw [hE'.out, if_neg (by simp)]; rfl, hB4.out⟩
    · obtain ⟨bu, hbu⟩ : ∃ b, (!(r == root)) = b := ⟨_, rfl⟩
      have hbu' := hid hbu
      clear hbu
      cases bu
      · have hrr : r = root := by simpa using hbu'.out
        have hrr' := hid hrr
        clear hrr
        go_wp2_with (first
        | ((with_reducible refine at_slot (some 11) ?_); refine wpList_run rfl (.pointer (some ⟨W3.heap.size, 0, none⟩)) (W3.alloc (.cells z32 28)) (by kernel_rfl) ?_)
        | ((with_reducible refine at_slot none ?_); refine wpList_store_mid rfl 28 (.tmp 11) (.tmp 35) rfl W3.heap.size 0 (byteCells r).toArray rfl rfl (by exact hCn.out.there W3) (by exact hCn.out.size) (by exact hCn.out.one) ?_; generalize hW4 : World.setCells _ _ _ _ = W4; obtain ⟨hN4, hb4⟩ := hCn.out.new hW4; have hN4' := hid hN4; have hB4 := hid (below_up hb4 hB3.out); have hR4 := hid (hR3.out.below hb4 hR3.out.lt); clear hW4 hN4 hb4)
        | ((with_reducible refine at_slot (some 40) ?_); refine wpList_load_on (by kernel_rfl) 28 (.tmp 11) rfl W3.heap.size 0 rfl (byteCells r) _ (by exact h_all hN4'.out) Try.underlying28 rfl (by exact hCn.out.size') ?_)
        | ((with_reducible refine at_slot (some 41) ?_); refine wpList_load_on (by kernel_rfl) 28 (.tmp 9) rfl w.heap.size 0 rfl (byteCells root) _ (by exact h_all hR4.out) Try.underlying28 rfl (by exact hCr.out.size') ?_)
        | ((with_reducible refine at_slot (some 42) ?_); refine wpList_hneq_at (by kernel_rfl) (.tmp 40) (.tmp 41) _ rfl r root h32'.out hr'.out rfl rfl ?_; rw [hbu'.out])
          | fail)
        go_ret
        exact ⟨by rw [hE'.out, if_pos ⟨by first | rfl | trivial, hrr'.out⟩]; rfl, hB4.out⟩
      · have hrr : r ≠ root := by simpa using hbu'.out
        go_wp2_with (first
        | ((with_reducible refine at_slot (some 11) ?_); refine wpList_run rfl (.pointer (some ⟨W3.heap.size, 0, none⟩)) (W3.alloc (.cells z32 28)) (by kernel_rfl) ?_)
        | ((with_reducible refine at_slot none ?_); refine wpList_store_mid rfl 28 (.tmp 11) (.tmp 35) rfl W3.heap.size 0 (byteCells r).toArray rfl rfl (by exact hCn.out.there W3) (by exact hCn.out.size) (by exact hCn.out.one) ?_; generalize hW4 : World.setCells _ _ _ _ = W4; obtain ⟨hN4, hb4⟩ := hCn.out.new hW4; have hN4' := hid hN4; have hB4 := hid (below_up hb4 hB3.out); have hR4 := hid (hR3.out.below hb4 hR3.out.lt); clear hW4 hN4 hb4)
        | ((with_reducible refine at_slot (some 40) ?_); refine wpList_load_on (by kernel_rfl) 28 (.tmp 11) rfl W3.heap.size 0 rfl (byteCells r) _ (by exact h_all hN4'.out) Try.underlying28 rfl (by exact hCn.out.size') ?_)
        | ((with_reducible refine at_slot (some 41) ?_); refine wpList_load_on (by kernel_rfl) 28 (.tmp 9) rfl w.heap.size 0 rfl (byteCells root) _ (by exact h_all hR4.out) Try.underlying28 rfl (by exact hCr.out.size') ?_)
        | ((with_reducible refine at_slot (some 42) ?_); refine wpList_hneq_at (by kernel_rfl) (.tmp 40) (.tmp 41) _ rfl r root h32'.out hr'.out rfl rfl ?_; rw [hbu'.out])
          | fail)
        go_ret
        exact ⟨by rw [hE'.out, if_neg (fun h => hrr h.2)]; rfl, hB4.out⟩
  · have hE : ckIncE (leafH x.data.toList) i size ps root = 1000 := if_neg hok
    rw [hE]
    have hno : size < 1 ∨ 256 < size ∨ i < 0 ∨ size ≤ i := by
      unfold placeOk at hok
      omega
    clear hok hE hP
    unfold hv
    by_cases c1 : size < 1
    · go_enter Try.func31, Try.ntmps31
      go_wp2_with fail
      go_ret
      exact ⟨rfl, hB1.out⟩
    · by_cases c2 : 256 < size
      · go_enter Try.func31, Try.ntmps31
        go_wp2_with fail
        go_ret
        exact ⟨rfl, hB1.out⟩
      · by_cases c3 : i < 0
        · go_enter Try.func31, Try.ntmps31
          go_wp2_with fail
          go_ret
          exact ⟨rfl, hB1.out⟩
        · have c4 : size ≤ i := by omega
          go_enter Try.func31, Try.ntmps31
          go_wp2_with fail
          go_ret
          exact ⟨rfl, hB1.out⟩

set_option maxRecDepth 100000 in
set_option maxHeartbeats 2000000 in
theorem rCheckCon_any (m size : Int) (A : Option Addr) (q c : Nat) (ps : List (List UInt8)) (old root : List UInt8) (B : Nat) (w : World) (hP : Hashs w B A q ps) (hBw : B ≤ w.heap.size) (hqc : q ≤ c) (hq9 : q ≤ 10000000000000) (ho : old.length = 32) (hr : root.length = 32) :
    Calls Try.prog 37 #[.int .i64 m, hv old, .int .i64 size, hv root, .slice A q c] w fun e w' => e = .returned (.int .i64 (ckConE m old size root ps)) ∧ Below w.heap.size w w' := by
  have z1 : (w.alloc (.cells (byteCells old).toArray 28)).heap.size = w.heap.size + 1 := by simp
  have hB1 := hid (((Below.refl w.heap.size w).alloc (Nat.le_refl _) (.cells (byteCells old).toArray 28)).alloc (by simp) (.cells (byteCells root).toArray 28))
  have hO1 := hid ((Holds.new w 28 (byteCells old).toArray).alloc (.cells (byteCells root).toArray 28))
  have hR1 := hid (show Holds _ (w.heap.size + 1) 28 (byteCells root) from z1 ▸ (Holds.new (w.alloc (.cells (byteCells old).toArray 28)) 28 (byteCells root).toArray))
  clear z1
  by_cases hok : partOk m size
  · obtain ⟨o1, o2, o3, o4⟩ := id hok
    obtain ⟨n, rfl⟩ : ∃ n : Nat, size = n := ⟨size.toNat, by omega⟩
    obtain ⟨m, rfl⟩ : ∃ n : Nat, m = n := ⟨m.toNat, by omega⟩
    have hE : ckConE m old n root ps = if (Mth.rise nodeH n old m n true ps).2.2 = true ∧ (Mth.rise nodeH n old m n true ps).1 = old ∧ (Mth.rise nodeH n old m n true ps).2.1 = root then 0 else 1001 := by
      unfold ckConE
      rw [if_pos hok, Int.toNat_natCast, Int.toNat_natCast]
    obtain ⟨E, hEd⟩ : ∃ E, ckConE m old n root ps = E := ⟨_, rfl⟩
    rw [hEd]
    rw [hEd] at hE
    have hcl := hid (fun W0 (hb : Below w.heap.size w W0) => rRise_any n old m n true A q c ps B W0 ho (hP.below (hb.mono hBw)) (Nat.le_trans hBw hb.size) hqc hq9 (by omega) (by omega) (by omega) (by omega))
    obtain ⟨h32, k32⟩ := rise_len n old m n true ps ho hP.2
    obtain ⟨R, hR⟩ : ∃ R, Mth.rise nodeH n old m n true ps = R := ⟨_, rfl⟩
    rw [hR] at hE hcl h32 k32
    have hE' := hid hE
    obtain ⟨r, s, ok⟩ := R
    dsimp only at h32 k32 hcl hE'
    have hCo := hid (hash_cells old ho)
    have hCr := hid (hash_cells root hr)
    have hCn := hid (hash_cells r h32)
    have hCs := hid (hash_cells s k32)
    have h32' := hid h32
    have k32' := hid k32
    have hr' := hid hr
    have ho' := hid ho
    have c1 : ¬ (n : Int) < 1 := by omega
    have c2 : ¬ (256 : Int) < (n : Int) := by omega
    have c3 : ¬ (m : Int) < 1 := by omega
    have c4 : ¬ (n : Int) < (m : Int) := by omega
    unfold hv at *
    clear hok hE hEd hP hr ho o1 o2 o3 o4 hR h32 k32
    go_enter Try.func37, Try.ntmps37
    go_wp2_with (first
      | ((with_reducible refine at_slot (some 32) ?_); refine wpList_load_mid rfl 28 (.tmp 6) rfl w.heap.size 0 rfl (byteCells old) _ (by exact h_all hO1.out) Try.underlying28 rfl (by exact hCo.out.size') ?_)
      | fail)
    refine (hcl.out _ hB1.out).mono ?_
    rintro e W3 ⟨rfl, hb3⟩
    have hB3 := below_up hb3 hB1.out
    have hO3 := hO1.out.below hb3 hO1.out.lt
    have hR3 := hR1.out.below hb3 hR1.out.lt
    obtain ⟨W4, hW4⟩ : ∃ W4, (W3.alloc (.cells z32 28)).alloc (.cells z32 28) = W4 := ⟨_, rfl⟩
    have e5 : (W3.alloc (.cells z32 28)).heap.size = W3.heap.size + 1 := by simp
    have hP4 : Holds W4 W3.heap.size 28 z32.toList := by rw [← hW4]; exact (Holds.new W3 28 z32).alloc _
    have hQ4 : Holds W4 (W3.heap.size + 1) 28 z32.toList := by rw [← hW4, ← e5]; exact Holds.new _ 28 z32
    have hb4 : Below W3.heap.size W3 W4 := by rw [← hW4]; exact ((Below.refl _ _).alloc (Nat.le_refl _) _).alloc (by simp) _
    have hB4 := hid (below_up hb4 hB3)
    have hO4 := hid (hO3.below hb4 hO3.lt)
    have hR4 := hid (hR3.below hb4 hR3.lt)
    have hP4' := hid hP4
    have hQ4' := hid hQ4
    have hW4' := hid hW4
    have e5' := hid e5
    have hw3 : w.heap.size + 1 < W3.heap.size := hR3.lt
    clear hb3 hB3 hO3 hR3 hW4 e5 hP4 hQ4 hb4
    obtain ⟨bv, hbv⟩ : ∃ b, (!(r == old)) = b := ⟨_, rfl⟩
    obtain ⟨bu, hbu⟩ : ∃ b, (!(s == root)) = b := ⟨_, rfl⟩
    have hbv' := hid hbv
    have hbu' := hid hbu
    clear hbv hbu
    cases ok
    · skip
      go_wp2_with (first
        | ((with_reducible refine at_slot (some 11) ?_); refine wpList_run rfl (.pointer (some ⟨W3.heap.size, 0, none⟩)) (W3.alloc (.cells z32 28)) (by kernel_rfl) ?_)
        | ((with_reducible refine at_slot (some 12) ?_); refine wpList_run rfl (.pointer (some ⟨(W3.alloc (.cells z32 28)).heap.size, 0, none⟩)) ((W3.alloc (.cells z32 28)).alloc (.cells z32 28)) (by kernel_rfl) ?_; rw [hW4'.out, e5'.out])
        | ((with_reducible refine at_slot none ?_); refine wpList_store_mid rfl 28 (.tmp 11) (.tmp 35) rfl W3.heap.size 0 (byteCells r).toArray rfl rfl (by exact hCn.out.there' hP4'.out rfl) (by exact hCn.out.size) (by exact hCn.out.one) ?_; generalize hW5 : World.setCells _ _ _ _ = W5; obtain ⟨hP5, hB5⟩ := hCn.out.set hP4'.out rfl hW5 hB4.out (by omega); have hP5' := hid hP5; have hB5' := hid hB5; have hQ5 := hid (holds_far hQ4'.out (by omega) hW5); have hO5 := hid (holds_far hO4.out (by omega) hW5); have hR5 := hid (holds_far hR4.out (by omega) hW5); clear hW5 hP5 hB5)
        | ((with_reducible refine at_slot none ?_); refine wpList_store_mid rfl 28 (.tmp 12) (.tmp 36) rfl (W3.heap.size + 1) 0 (byteCells s).toArray rfl rfl (by exact hCs.out.there' hQ5.out rfl) (by exact hCs.out.size) (by exact hCs.out.one) ?_; generalize hW6 : World.setCells _ _ _ _ = W6; obtain ⟨hQ6, hB6o⟩ := hCs.out.set hQ5.out rfl hW6 hB5'.out (by omega); have hQ6' := hid hQ6; have hB6 := hid hB6o; have hP6 := hid (holds_far hP5'.out (by omega) hW6); have hO6 := hid (holds_far hO5.out (by omega) hW6); have hR6 := hid (holds_far hR5.out (by omega) hW6); clear hW6 hQ6 hB6o)
        | fail)
      go_ret
      exact ⟨by rw [hE'.out, if_neg (by simp)]; rfl, hB6.out⟩
    · cases bv
      · have hVo : r = old := by simpa using hbv'.out
        have hVo' := hid hVo
        clear hVo
        cases bu
        · have hUr : s = root := by simpa using hbu'.out
          have hUr' := hid hUr
          clear hUr
          go_wp2_with (first
            | ((with_reducible refine at_slot (some 11) ?_); refine wpList_run rfl (.pointer (some ⟨W3.heap.size, 0, none⟩)) (W3.alloc (.cells z32 28)) (by kernel_rfl) ?_)
            | ((with_reducible refine at_slot (some 12) ?_); refine wpList_run rfl (.pointer (some ⟨(W3.alloc (.cells z32 28)).heap.size, 0, none⟩)) ((W3.alloc (.cells z32 28)).alloc (.cells z32 28)) (by kernel_rfl) ?_; rw [hW4'.out, e5'.out])
            | ((with_reducible refine at_slot none ?_); refine wpList_store_mid rfl 28 (.tmp 11) (.tmp 35) rfl W3.heap.size 0 (byteCells r).toArray rfl rfl (by exact hCn.out.there' hP4'.out rfl) (by exact hCn.out.size) (by exact hCn.out.one) ?_; generalize hW5 : World.setCells _ _ _ _ = W5; obtain ⟨hP5, hB5⟩ := hCn.out.set hP4'.out rfl hW5 hB4.out (by omega); have hP5' := hid hP5; have hB5' := hid hB5; have hQ5 := hid (holds_far hQ4'.out (by omega) hW5); have hO5 := hid (holds_far hO4.out (by omega) hW5); have hR5 := hid (holds_far hR4.out (by omega) hW5); clear hW5 hP5 hB5)
            | ((with_reducible refine at_slot none ?_); refine wpList_store_mid rfl 28 (.tmp 12) (.tmp 36) rfl (W3.heap.size + 1) 0 (byteCells s).toArray rfl rfl (by exact hCs.out.there' hQ5.out rfl) (by exact hCs.out.size) (by exact hCs.out.one) ?_; generalize hW6 : World.setCells _ _ _ _ = W6; obtain ⟨hQ6, hB6o⟩ := hCs.out.set hQ5.out rfl hW6 hB5'.out (by omega); have hQ6' := hid hQ6; have hB6 := hid hB6o; have hP6 := hid (holds_far hP5'.out (by omega) hW6); have hO6 := hid (holds_far hO5.out (by omega) hW6); have hR6 := hid (holds_far hR5.out (by omega) hW6); clear hW6 hQ6 hB6o)
            | ((with_reducible refine at_slot (some 41) ?_); refine wpList_load_on (by kernel_rfl) 28 (.tmp 11) rfl W3.heap.size 0 rfl (byteCells r) _ (by exact h_all hP6.out) Try.underlying28 rfl (by exact hCn.out.size') ?_)
            | ((with_reducible refine at_slot (some 42) ?_); refine wpList_load_on (by kernel_rfl) 28 (.tmp 6) rfl w.heap.size 0 rfl (byteCells old) _ (by exact h_all hO6.out) Try.underlying28 rfl (by exact hCo.out.size') ?_)
            | ((with_reducible refine at_slot (some 43) ?_); refine wpList_hneq_at (by kernel_rfl) (.tmp 41) (.tmp 42) _ rfl r old h32'.out ho'.out rfl rfl ?_; rw [hbv'.out])
            | ((with_reducible refine at_slot (some 46) ?_); refine wpList_load_on (by kernel_rfl) 28 (.tmp 12) rfl (W3.heap.size + 1) 0 rfl (byteCells s) _ (by exact h_all hQ6'.out) Try.underlying28 rfl (by exact hCs.out.size') ?_)
            | ((with_reducible refine at_slot (some 47) ?_); refine wpList_load_on (by kernel_rfl) 28 (.tmp 8) rfl (w.heap.size + 1) 0 rfl (byteCells root) _ (by exact h_all hR6.out) Try.underlying28 rfl (by exact hCr.out.size') ?_)
            | ((with_reducible refine at_slot (some 48) ?_); refine wpList_hneq_at (by kernel_rfl) (.tmp 46) (.tmp 47) _ rfl s root k32'.out hr'.out rfl rfl ?_; rw [hbu'.out])
            | fail)
          go_ret
          exact ⟨by rw [hE'.out, if_pos ⟨by first | rfl | trivial, hVo'.out, hUr'.out⟩]; rfl, hB6.out⟩
        · have hUr : s ≠ root := by simpa using hbu'.out
          go_wp2_with (first
            | ((with_reducible refine at_slot (some 11) ?_); refine wpList_run rfl (.pointer (some ⟨W3.heap.size, 0, none⟩)) (W3.alloc (.cells z32 28)) (by kernel_rfl) ?_)
            | ((with_reducible refine at_slot (some 12) ?_); refine wpList_run rfl (.pointer (some ⟨(W3.alloc (.cells z32 28)).heap.size, 0, none⟩)) ((W3.alloc (.cells z32 28)).alloc (.cells z32 28)) (by kernel_rfl) ?_; rw [hW4'.out, e5'.out])
            | ((with_reducible refine at_slot none ?_); refine wpList_store_mid rfl 28 (.tmp 11) (.tmp 35) rfl W3.heap.size 0 (byteCells r).toArray rfl rfl (by exact hCn.out.there' hP4'.out rfl) (by exact hCn.out.size) (by exact hCn.out.one) ?_; generalize hW5 : World.setCells _ _ _ _ = W5; obtain ⟨hP5, hB5⟩ := hCn.out.set hP4'.out rfl hW5 hB4.out (by omega); have hP5' := hid hP5; have hB5' := hid hB5; have hQ5 := hid (holds_far hQ4'.out (by omega) hW5); have hO5 := hid (holds_far hO4.out (by omega) hW5); have hR5 := hid (holds_far hR4.out (by omega) hW5); clear hW5 hP5 hB5)
            | ((with_reducible refine at_slot none ?_); refine wpList_store_mid rfl 28 (.tmp 12) (.tmp 36) rfl (W3.heap.size + 1) 0 (byteCells s).toArray rfl rfl (by exact hCs.out.there' hQ5.out rfl) (by exact hCs.out.size) (by exact hCs.out.one) ?_; generalize hW6 : World.setCells _ _ _ _ = W6; obtain ⟨hQ6, hB6o⟩ := hCs.out.set hQ5.out rfl hW6 hB5'.out (by omega); have hQ6' := hid hQ6; have hB6 := hid hB6o; have hP6 := hid (holds_far hP5'.out (by omega) hW6); have hO6 := hid (holds_far hO5.out (by omega) hW6); have hR6 := hid (holds_far hR5.out (by omega) hW6); clear hW6 hQ6 hB6o)
            | ((with_reducible refine at_slot (some 41) ?_); refine wpList_load_on (by kernel_rfl) 28 (.tmp 11) rfl W3.heap.size 0 rfl (byteCells r) _ (by exact h_all hP6.out) Try.underlying28 rfl (by exact hCn.out.size') ?_)
            | ((with_reducible refine at_slot (some 42) ?_); refine wpList_load_on (by kernel_rfl) 28 (.tmp 6) rfl w.heap.size 0 rfl (byteCells old) _ (by exact h_all hO6.out) Try.underlying28 rfl (by exact hCo.out.size') ?_)
            | ((with_reducible refine at_slot (some 43) ?_); refine wpList_hneq_at (by kernel_rfl) (.tmp 41) (.tmp 42) _ rfl r old h32'.out ho'.out rfl rfl ?_; rw [hbv'.out])
            | ((with_reducible refine at_slot (some 46) ?_); refine wpList_load_on (by kernel_rfl) 28 (.tmp 12) rfl (W3.heap.size + 1) 0 rfl (byteCells s) _ (by exact h_all hQ6'.out) Try.underlying28 rfl (by exact hCs.out.size') ?_)
            | ((with_reducible refine at_slot (some 47) ?_); refine wpList_load_on (by kernel_rfl) 28 (.tmp 8) rfl (w.heap.size + 1) 0 rfl (byteCells root) _ (by exact h_all hR6.out) Try.underlying28 rfl (by exact hCr.out.size') ?_)
            | ((with_reducible refine at_slot (some 48) ?_); refine wpList_hneq_at (by kernel_rfl) (.tmp 46) (.tmp 47) _ rfl s root k32'.out hr'.out rfl rfl ?_; rw [hbu'.out])
            | fail)
          go_ret
          exact ⟨by rw [hE'.out, if_neg (fun h => hUr h.2.2)]; rfl, hB6.out⟩
      · have hVo : r ≠ old := by simpa using hbv'.out
        go_wp2_with (first
          | ((with_reducible refine at_slot (some 11) ?_); refine wpList_run rfl (.pointer (some ⟨W3.heap.size, 0, none⟩)) (W3.alloc (.cells z32 28)) (by kernel_rfl) ?_)
          | ((with_reducible refine at_slot (some 12) ?_); refine wpList_run rfl (.pointer (some ⟨(W3.alloc (.cells z32 28)).heap.size, 0, none⟩)) ((W3.alloc (.cells z32 28)).alloc (.cells z32 28)) (by kernel_rfl) ?_; rw [hW4'.out, e5'.out])
          | ((with_reducible refine at_slot none ?_); refine wpList_store_mid rfl 28 (.tmp 11) (.tmp 35) rfl W3.heap.size 0 (byteCells r).toArray rfl rfl (by exact hCn.out.there' hP4'.out rfl) (by exact hCn.out.size) (by exact hCn.out.one) ?_; generalize hW5 : World.setCells _ _ _ _ = W5; obtain ⟨hP5, hB5⟩ := hCn.out.set hP4'.out rfl hW5 hB4.out (by omega); have hP5' := hid hP5; have hB5' := hid hB5; have hQ5 := hid (holds_far hQ4'.out (by omega) hW5); have hO5 := hid (holds_far hO4.out (by omega) hW5); have hR5 := hid (holds_far hR4.out (by omega) hW5); clear hW5 hP5 hB5)
          | ((with_reducible refine at_slot none ?_); refine wpList_store_mid rfl 28 (.tmp 12) (.tmp 36) rfl (W3.heap.size + 1) 0 (byteCells s).toArray rfl rfl (by exact hCs.out.there' hQ5.out rfl) (by exact hCs.out.size) (by exact hCs.out.one) ?_; generalize hW6 : World.setCells _ _ _ _ = W6; obtain ⟨hQ6, hB6o⟩ := hCs.out.set hQ5.out rfl hW6 hB5'.out (by omega); have hQ6' := hid hQ6; have hB6 := hid hB6o; have hP6 := hid (holds_far hP5'.out (by omega) hW6); have hO6 := hid (holds_far hO5.out (by omega) hW6); have hR6 := hid (holds_far hR5.out (by omega) hW6); clear hW6 hQ6 hB6o)
          | ((with_reducible refine at_slot (some 41) ?_); refine wpList_load_on (by kernel_rfl) 28 (.tmp 11) rfl W3.heap.size 0 rfl (byteCells r) _ (by exact h_all hP6.out) Try.underlying28 rfl (by exact hCn.out.size') ?_)
          | ((with_reducible refine at_slot (some 42) ?_); refine wpList_load_on (by kernel_rfl) 28 (.tmp 6) rfl w.heap.size 0 rfl (byteCells old) _ (by exact h_all hO6.out) Try.underlying28 rfl (by exact hCo.out.size') ?_)
          | ((with_reducible refine at_slot (some 43) ?_); refine wpList_hneq_at (by kernel_rfl) (.tmp 41) (.tmp 42) _ rfl r old h32'.out ho'.out rfl rfl ?_; rw [hbv'.out])
          | fail)
        go_ret
        exact ⟨by rw [hE'.out, if_neg (fun h => hVo h.2.1)]; rfl, hB6.out⟩
  · have hE : ckConE m old size root ps = 1000 := if_neg hok
    rw [hE]
    have hno : size < 1 ∨ 256 < size ∨ m < 1 ∨ size < m := by
      unfold partOk at hok
      omega
    clear hok hE hP
    unfold hv
    by_cases c1 : size < 1
    · go_enter Try.func37, Try.ntmps37
      go_wp2_with fail
      go_ret
      exact ⟨rfl, hB1.out⟩
    · by_cases c2 : 256 < size
      · go_enter Try.func37, Try.ntmps37
        go_wp2_with fail
        go_ret
        exact ⟨rfl, hB1.out⟩
      · by_cases c3 : m < 1
        · go_enter Try.func37, Try.ntmps37
          go_wp2_with fail
          go_ret
          exact ⟨rfl, hB1.out⟩
        · have c4 : size < m := by omega
          go_enter Try.func37, Try.ntmps37
          go_wp2_with fail
          go_ret
          exact ⟨rfl, hB1.out⟩

end Go.Proofs.Ytenfhmpjhbpkpaa
namespace Go.Proofs.Ytenfhmpjhbpkpaa
open Go.RowKit
open Go.Lib (strCells strCells_length strCells_oneCell)
attribute [local irreducible] Sha.compress Sha.blocks Sha.sha Sha.pad

set_option maxRecDepth 100000 in
set_option maxHeartbeats 1000000 in
theorem rInclusion_any (A : Option Addr) (n c : Nat) (xs : List ByteArray) (i : Int) (B : Nat) (w : World) (hX : Texts w B A n xs) (hB : B ≤ w.heap.size) (hnc : n ≤ c) (hs : ∀ s ∈ xs, s.size ≤ 140737488351232) :
    Calls Try.prog 28 #[.slice A n c, .int .i64 i] w fun e w' => ∃ A' c', e = .returned (.tuple #[.slice A' (incL xs i).length c', .int .i64 (incE xs i)]) ∧ Hashs w' w'.heap.size A' (incL xs i).length (incL xs i) ∧ (incL xs i).length ≤ c' ∧ (A' = none → c' = 0) ∧ (incL xs i).length ≤ 256 ∧ Below w.heap.size w w' := by
  have hl := hX.len
  by_cases hok : incOk xs i
  · obtain ⟨h1, h2, h3⟩ := id hok
    have e1 : incL xs i = Mth.pathOf rootH i.toNat xs := if_pos hok
    have e2 : incE xs i = 0 := if_pos hok
    have hll := incL_len xs i
    rw [e1] at hll
    rw [e1, e2]
    obtain ⟨k, rfl⟩ : ∃ k : Nat, i = k := ⟨i.toNat, by omega⟩
    rw [Int.toNat_natCast] at hll ⊢
    have hr := hid (rPath_any n k A c xs B w hX hB hnc (by omega) (by omega) hs)
    have hll' := hid hll
    have c1 : ¬ (256 : Int) < (n : Int) := by omega
    have c2 : ¬ (k : Int) < 0 := by omega
    have c3 : ¬ (n : Int) ≤ (k : Int) := by omega
    have hn : n ≤ 256 := by omega
    clear hok e1 e2 hll hs hX hl h1 h2 h3
    go_enter Try.func28, Try.ntmps28
    go_wp2_with fail
    refine hr.out.mono ?_
    rintro e W3 ⟨A3, c3, rfl, hrow3, hle, hb3⟩
    have hb3' := hid hb3
    have hcap := own_cap hrow3
    have hrow3' := hid hrow3
    clear hb3 hrow3
    go_wp2_with fail
    go_ret2
    exact ⟨A3, c3, rfl, Hashs.of_own hrow3'.out hll'.out, hcap, (fun h => by subst h; exact own_nil hrow3'.out), by omega, hb3'.out⟩
  · have e1 : incL xs i = [] := if_neg hok
    have e2 : incE xs i = 1000 := if_neg hok
    rw [e1, e2]
    have hno : 256 < n ∨ i < 0 ∨ (n : Int) ≤ i := by
      unfold incOk at hok
      omega
    clear e1 e2 hok hs
    by_cases c2 : i < 0
    · go_enter Try.func28, Try.ntmps28
      go_wp2_with fail
      go_ret2
      first | exact ⟨none, 0, rfl, Hashs.nil_ _ _, fun _ => rfl, Below.refl _ _⟩ | exact ⟨none, 0, rfl, Hashs.nil_ _ _, Nat.zero_le _, fun _ => rfl, Nat.zero_le _, Below.refl _ _⟩
    · by_cases c3 : (n : Int) ≤ i
      · go_enter Try.func28, Try.ntmps28
        go_wp2_with fail
        go_ret2
        first | exact ⟨none, 0, rfl, Hashs.nil_ _ _, fun _ => rfl, Below.refl _ _⟩ | exact ⟨none, 0, rfl, Hashs.nil_ _ _, Nat.zero_le _, fun _ => rfl, Nat.zero_le _, Below.refl _ _⟩
      · have c1 : (256 : Int) < (n : Int) := by omega
        go_enter Try.func28, Try.ntmps28
        go_wp2_with fail
        go_ret2
        first | exact ⟨none, 0, rfl, Hashs.nil_ _ _, fun _ => rfl, Below.refl _ _⟩ | exact ⟨none, 0, rfl, Hashs.nil_ _ _, Nat.zero_le _, fun _ => rfl, Nat.zero_le _, Below.refl _ _⟩

set_option maxRecDepth 100000 in
set_option maxHeartbeats 1000000 in
theorem rConsistency_any (A : Option Addr) (n c : Nat) (xs : List ByteArray) (i : Int) (B : Nat) (w : World) (hX : Texts w B A n xs) (hB : B ≤ w.heap.size) (hnc : n ≤ c) (hs : ∀ s ∈ xs, s.size ≤ 140737488351232) :
    Calls Try.prog 35 #[.slice A n c, .int .i64 i] w fun e w' => ∃ A' c', e = .returned (.tuple #[.slice A' (conL xs i).length c', .int .i64 (conE xs i)]) ∧ Hashs w' w'.heap.size A' (conL xs i).length (conL xs i) ∧ (conL xs i).length ≤ c' ∧ (A' = none → c' = 0) ∧ (conL xs i).length ≤ 257 ∧ Below w.heap.size w w' := by
  have hl := hX.len
  by_cases hok : conOk xs i
  · obtain ⟨h1, h2, h3⟩ := id hok
    have e1 : conL xs i = Mth.subOf rootH i.toNat xs true := if_pos hok
    have e2 : conE xs i = 0 := if_pos hok
    have hll := conL_len xs i
    rw [e1] at hll
    rw [e1, e2]
    obtain ⟨k, rfl⟩ : ∃ k : Nat, i = k := ⟨i.toNat, by omega⟩
    rw [Int.toNat_natCast] at hll ⊢
    have hr := hid (rSub_any n k A c xs true B w hX hB hnc (by omega) (by omega) (by omega) hs)
    have hll' := hid hll
    have c1 : ¬ (256 : Int) < (n : Int) := by omega
    have c2 : ¬ (k : Int) < 1 := by omega
    have c3 : ¬ (n : Int) < (k : Int) := by omega
    have hn : n ≤ 256 := by omega
    clear hok e1 e2 hll hs hX hl h1 h2 h3
    go_enter Try.func35, Try.ntmps35
    go_wp2_with fail
    refine hr.out.mono ?_
    rintro e W3 ⟨A3, c3, rfl, hrow3, hle, hb3⟩
    have hb3' := hid hb3
    have hcap := own_cap hrow3
    have hrow3' := hid hrow3
    clear hb3 hrow3
    go_wp2_with fail
    go_ret2
    exact ⟨A3, c3, rfl, Hashs.of_own hrow3'.out hll'.out, hcap, (fun h => by subst h; exact own_nil hrow3'.out), by omega, hb3'.out⟩
  · have e1 : conL xs i = [] := if_neg hok
    have e2 : conE xs i = 1000 := if_neg hok
    rw [e1, e2]
    have hno : 256 < n ∨ i < 1 ∨ (n : Int) < i := by
      unfold conOk at hok
      omega
    clear e1 e2 hok hs
    by_cases c2 : i < 1
    · go_enter Try.func35, Try.ntmps35
      go_wp2_with fail
      go_ret2
      first | exact ⟨none, 0, rfl, Hashs.nil_ _ _, fun _ => rfl, Below.refl _ _⟩ | exact ⟨none, 0, rfl, Hashs.nil_ _ _, Nat.zero_le _, fun _ => rfl, Nat.zero_le _, Below.refl _ _⟩
    · by_cases c3 : (n : Int) < i
      · go_enter Try.func35, Try.ntmps35
        go_wp2_with fail
        go_ret2
        first | exact ⟨none, 0, rfl, Hashs.nil_ _ _, fun _ => rfl, Below.refl _ _⟩ | exact ⟨none, 0, rfl, Hashs.nil_ _ _, Nat.zero_le _, fun _ => rfl, Nat.zero_le _, Below.refl _ _⟩
      · have c1 : (256 : Int) < (n : Int) := by omega
        go_enter Try.func35, Try.ntmps35
        go_wp2_with fail
        go_ret2
        first | exact ⟨none, 0, rfl, Hashs.nil_ _ _, fun _ => rfl, Below.refl _ _⟩ | exact ⟨none, 0, rfl, Hashs.nil_ _ _, Nat.zero_le _, fun _ => rfl, Nat.zero_le _, Below.refl _ _⟩

end Go.Proofs.Ytenfhmpjhbpkpaa
