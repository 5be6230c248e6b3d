/- Layer 12: what every program answers that is one.
   Layer 12: Builds. -/
import Derived.Test.YtpjfhbmegabafaaKFtNu
import Derived.Test.YtpjfhbmegabafaaKSameH
import Derived.Test.YtpjfhbmegabafaaKFtR
import Derived.Test.YtpjfhbmegabafaaKObPr
import Derived.Test.YtpjfhbmegabafaaKFtU
import Derived.Test.YtpjfhbmegabafaaKFtS
import Derived.Test.YtpjfhbmegabafaaKKeepX
namespace Go.Proofs.Ytpjfhbmegabafaa
open Go.RowKit
open Go.Lib (strCells strCells_length strCells_oneCell)
attribute [local irreducible] Sha.compress Sha.blocks Sha.sha Sha.pad

section
variable {P : Program} {ops : Array Oper} {rest : List Oper} {o : Oper} {a : Act} {w : World} {Q : Exit → Act → World → Prop}
theorem wpL_run_on (hw : Region.wanted o (yielded ops a.tmps) = true) (v : Value) (w' : World) (hrun : (execOp a.eval o).run P w = .ok (.value v) w') (h : wpList P ops Q rest (a.put o.dst v) w') : wpList P ops Q (o :: rest) a w :=
  wpList_step fun _ hK => by
    rw [if_pos hw]
    unfold Oper.wp
    rw [hrun]
    exact hK _ _ h
theorem wpL_loadH (hw : Region.wanted o (yielded ops a.tmps) = true) (x : Operand) (ho : o.op = .load 33 x) {g : Nat} {l : List UInt8} (hx : a.eval x = .pointer (some ⟨g, 0, none⟩)) (h32 : l.length = 32) (hH : Holds w g 33 (byteCells l)) (h : wpList Try.prog ops Q rest (a.put o.dst (.agg (byteCells l).toArray)) w) : wpList Try.prog ops Q (o :: rest) a w :=
  wpL_run_on hw _ _ (by unfold execOp; simp only [ho, hx, Instr.loadAt, Instr.sureAddr, Sem.run_bind, Sem.run_pure, Result.andThen_ok, run_loadVar_mid w g 0 33 (byteCells l) _ (h_all hH) Try.underlying33 rfl (hash_cells l h32).size']) h
theorem wpL_buildH (hw : Region.wanted o (yielded ops a.tmps) = true) (x : Operand) (ho : o.op = .buildSlice 62 1 #[(0, x)]) {l : List UInt8} (hx : a.eval x = .agg (byteCells l).toArray) (h32 : l.length = 32) (h : wpList Try.prog ops Q rest (a.put o.dst (.slice (some ⟨w.heap.size, 0, none⟩) 1 1)) (w.alloc (.cells (byteCells l).toArray 33))) : wpList Try.prog ops Q (o :: rest) a w := by
  obtain ⟨i0, hi0, hz0, hz1, hz2⟩ := info_parts Try.infoHashD
  have hC := hash_cells l h32
  have hr := run_buildSlice_one (w := w) 62 33 i0 _ Try.underlying62 hi0 hz0 (byteCells l).toArray (by rw [hz1, List.size_toArray, hC.len]) (by rw [List.size_toArray, hC.len]; decide) (by rw [List.size_toArray, hC.len]; decide)
  exact wpL_run_on hw _ _ (by unfold execOp; simp only [ho, List.map_toArray, List.map_cons, List.map_nil, hx, Sem.run_bind, hr, Result.andThen_ok, Sem.run_pure]) h
end
theorem hashs_one {V : World} {g : Nat} {l : List UInt8} (h32 : l.length = 32) (h : Holds V g 33 (byteCells l)) : Hashs V V.heap.size (some ⟨g, 0, none⟩) 1 [l] := by
  refine ⟨⟨by rw [hashCells_one, byteCells, List.length_map, h32], .inr ⟨_, rfl, h.lt, fun j hj => ?_⟩⟩, fun x hx => by rw [List.mem_singleton.1 hx]; exact h32⟩
  rw [show (⟨g, 0, none⟩ : Addr).add j = ⟨g, j, none⟩ from by unfold Addr.add; split <;> simp_all, h.cell]
  have e : hashCells [l] = byteCells l := hashCells_one l
  rw [List.getElem?_eq_getElem (by rw [e] at hj; exact hj)]
  simp only [e]
def objsAB : List ByteArray := [tBab, tI, tR]
theorem objs_small : ∀ x ∈ objsAB, x.size ≤ 140737488351232 := by decide +kernel
theorem objs_at {V : World} {b : Nat} (hT : TxtsAt V b objsAB) : 0 < 3 → ∃ p : Addr, (some ⟨b, 0, none⟩ : Option Addr) = some p ∧ p.block < V.heap.size ∧ ∀ i x, objsAB[i]? = some x → V.cell? (p.add i) = some (.string x) := fun _ =>
  ⟨_, rfl, hT.lt, fun i x hx => by rw [show (⟨b, 0, none⟩ : Addr).add i = ⟨b, i, none⟩ from by unfold Addr.add; split <;> simp_all]; exact hT.cell hx⟩
theorem ld2 {V : World} {b c : Nat} (hT : TxtsAt V b objsAB) : Calls Try.prog 30 #[.agg (byteCells h3L).toArray, .int .i64 2, .slice (some ⟨b, 0, none⟩) 3 c] V fun e V' => e = .returned (.tuple #[.string dAB, .slice none 0 0, .int .i64 0]) ∧ Below V.heap.size V V' := by
  refine (load_any h3L rfl 2 (by decide) (some ⟨b, 0, none⟩) 3 c objsAB (by decide) rfl objs_small V (objs_at hT)).mono ?_
  rintro e V' ⟨h, hb⟩
  rw [show objsAB.foldl addS [] = ksAB from ks_ab, load_two] at h
  unfold LoadPost at h
  simp only [↓reduceIte] at h
  exact ⟨h, hb⟩
theorem ld3 {V : World} {b c : Nat} (hT : TxtsAt V b objsAB) : Calls Try.prog 30 #[.agg (byteCells h3L).toArray, .int .i64 3, .slice (some ⟨b, 0, none⟩) 3 c] V fun e V' => e = .returned (.tuple #[.string ⟨#[]⟩, .slice none 0 0, .int .i64 1200]) ∧ Below V.heap.size V V' := by
  refine (load_any h3L rfl 3 (by decide) (some ⟨b, 0, none⟩) 3 c objsAB (by decide) rfl objs_small V (objs_at hT)).mono ?_
  rintro e V' ⟨h, hb⟩
  rw [show objsAB.foldl addS [] = ksAB from ks_ab, load_three] at h
  exact ⟨h, hb⟩
theorem ld0 (root : List UInt8) (hr : root.length = 32) (V : World) : Calls Try.prog 30 #[.agg (byteCells root).toArray, .int .i64 2, .slice none 0 0] V fun e V' => (∃ A c, e = .returned (.tuple #[.string ⟨#[]⟩, .slice A 1 c, .int .i64 1201]) ∧ V'.ownsRow 0 33 32 (.slice A 1 c) 1 (hashCells [root])) ∧ Below V.heap.size V V' := by
  refine (load_any root hr 2 (by decide) none 0 0 [] (by decide) rfl (fun _ h => nomatch h) V (fun h => absurd h (by decide))).mono ?_
  rintro e V' ⟨h, hb⟩
  rw [show ([] : List ByteArray).foldl addS [] = [] from rfl, load_none] at h
  unfold LoadPost at h
  simp only [List.cons_ne_nil, ↓reduceIte] at h
  obtain ⟨A, m, c, e1, e2, -⟩ := h
  have hm : m = 1 := by
    have h1 := e2.1
    rw [hashCells_length _ (fun x hx => by rw [List.mem_singleton.1 hx]; exact hr)] at h1
    simp at h1
    omega
  subst hm
  exact ⟨⟨A, c, e1, e2⟩, hb⟩
theorem bl_ab (V : World) : Calls Try.prog 25 #[.string dAB] V fun e V' => (∃ b c, e = .returned (.tuple #[.agg (byteCells h3L).toArray, .slice (some ⟨b, 0, none⟩) 3 c, .int .i64 0]) ∧ TxtsAt V' b objsAB ∧ V.heap.size ≤ b) ∧ Below V.heap.size V V' := by
  refine (build_any dAB (by decide) V).mono ?_
  rintro e V' ⟨A, m, c, rfl, hro, hfr, hb⟩
  rw [tree_ab] at hro
  rw [root_ab]
  have hm : m = 3 := by
    have h1 := hro.1
    simp [strs] at h1
    omega
  subst hm
  obtain ⟨b, e1, e2, e3, e4, -⟩ := own_txts hro
  obtain rfl := e1 (by decide)
  exact ⟨⟨b, c, rfl, e2 (by decide), hfr b rfl⟩, hb⟩
set_option maxRecDepth 100000 in
set_option maxHeartbeats 1000000 in
theorem awake12_any (w : World) : Calls Try.prog 28 #[] w fun e w' => e = .returned (.bool true) ∧ Below w.heap.size w w' := by
  have hC := hid (hash_cells h3L rfl)
  have hBu := hid (fun V => bl_ab V)
  have h0 := hid (Below.refl w.heap.size w)
  have hL := hid (fun V => ld0 h3L rfl V)
  obtain ⟨z, hz⟩ : ∃ z, zeroS 4097 = z := ⟨_, rfl⟩
  have hzs := hid (show z.size = 4097 from by rw [← hz]; exact zeroS_size _)
  have hz' := hid hz
  have hBl := hid (fun V => build_long z (by rw [hzs.out]; decide) V)
  obtain ⟨i0, hi, hz0, hzz, hby⟩ := info_parts Try.infoU8
  have e4 : (tBab.toList == [66, 97, 98]) = true := by kernel_rfl
  have e5 : (dAB.toList == [97, 98]) = true := by kernel_rfl
  clear hz
  obtain ⟨hh, hhd⟩ : ∃ l, h3L = l := ⟨_, rfl⟩
  have hld2 := hid (fun (V : World) (b c : Nat) (h : TxtsAt V b objsAB) => ld2 (c := c) h)
  have hld3 := hid (fun (V : World) (b c : Nat) (h : TxtsAt V b objsAB) => ld3 (c := c) h)
  rw [hhd] at hC hBu hL hld2 hld3
  have hh32 := hid (show hh.length = 32 from by rw [← hhd]; rfl)
  clear hhd
  go_enter Try.func28, Try.ntmps28
  go_wp2_with (first
    | (go_at_call 25; refine (hBu.out _).mono ?_; clear hBu; rintro e W1 ⟨⟨b, c, rfl, hT, hbl⟩, hb⟩; have hb1 := hid (h0.out.trans (hb.mono h0.out.size)); have hT1 := hid hT; have hbl' := hid hbl; clear hb hT hbl)
    | ((with_reducible refine at_slot (some 1) ?_); refine wpList_run rfl (.pointer (some ⟨W1.heap.size, 0, none⟩)) (W1.alloc (.cells z32 33)) (by kernel_rfl) ?_)
    | ((with_reducible refine at_slot none ?_); refine wpList_store_mid rfl 33 (.tmp 1) (.tmp 18) rfl W1.heap.size 0 (byteCells hh).toArray rfl rfl (by exact hC.out.there W1) (by exact hC.out.size) (by exact hC.out.one) ?_; generalize hW : World.setCells _ _ _ _ = W2; obtain ⟨hN, hb⟩ := hC.out.new hW; have hX2 := hid hN; have hT2 := hid (hT1.out.on (hb.block b hT1.out.lt)); have hb2 := hid (hb1.out.trans (hb.mono hb1.out.size)); clear hN hb hW)
    | ((with_reducible refine at_slot (some 22) ?_); refine wpList_load_mid rfl 33 (.tmp 1) rfl W1.heap.size 0 rfl (byteCells hh) _ (by exact h_all hX2.out) Try.underlying33 rfl (by exact hC.out.size') ?_)
    | fail)
  refine (hld2.out W2 b c hT2.out).mono ?_
  rintro e W3 ⟨rfl, hb⟩
  have hX3 := hid (hX2.out.below hb hX2.out.lt)
  have hT3 := hid (hT2.out.on (hb.block b hT2.out.lt))
  have hb3 := hid (hb2.out.trans (hb.mono hb2.out.size))
  clear hb hld2
  go_wp2_with (first
    | ((with_reducible refine at_slot (some 29) ?_); refine wpList_load_mid rfl 33 (.tmp 1) rfl W1.heap.size 0 rfl (byteCells hh) _ (by exact h_all hX3.out) Try.underlying33 rfl (by exact hC.out.size') ?_)
    | fail)
  refine (hL.out W3).mono ?_
  rintro e W4 ⟨⟨A4, c4, rfl, hro⟩, hb⟩
  have hX4 := hid (hX3.out.below hb hX3.out.lt)
  have hT4 := hid (hT3.out.on (hb.block b hT3.out.lt))
  have hb4 := hid (hb3.out.trans (hb.mono hb3.out.size))
  have hr4 := hid hro
  clear hb hL hro
  go_wp2_with (first
    | ((with_reducible refine at_slot (some 35) ?_); refine wpList_load_mid rfl 33 (.tmp 1) rfl W1.heap.size 0 rfl (byteCells hh) _ (by exact h_all hX4.out) Try.underlying33 rfl (by exact hC.out.size') ?_)
    | fail)
  refine (hld3.out W4 b c hT4.out).mono ?_
  rintro e W5 ⟨rfl, hb⟩
  have hX5 := hid (hX4.out.below hb hX4.out.lt)
  have hT5 := hid (hT4.out.on (hb.block b hT4.out.lt))
  have hb5 := hid (hb4.out.trans (hb.mono hb4.out.size))
  have hr5 := hid (rown_onF hr4.out hb)
  clear hb hld3
  go_wp2_with (first
    | ((with_reducible refine at_slot (some 42) ?_); refine wpList_make_zeros rfl _ _ 51 rfl 5 i0 Try.underlying51 hi hz0 hzz hby _ 4097 rfl rfl (by omega) (by omega) z hz'.out ?_; intro W6 hRz hb; have hcv := run_convert_row (P := Try.prog) (w := W6) (e := 5) 51 9 Try.underlying51 Try.underlying5 Try.underlying9 hzs.out.symm hRz; have hcv' := hid hcv; clear hcv hRz; have hX6 := hid (hX5.out.below hb hX5.out.lt); have hT6 := hid (hT5.out.on (hb.block b hT5.out.lt)); have hb6 := hid (hb5.out.trans (hb.mono hb5.out.size)); have hr6 := hid (rown_onF hr5.out hb); clear hb)
    | ((with_reducible refine at_slot (some 43) ?_); refine wpList_convert rfl 51 9 (.tmp 42) rfl _ (.string z) _ rfl (by exact hcv'.out) ?_)
    | fail)
  refine (hBl.out W6).mono ?_
  rintro e W7 ⟨rfl, hb⟩
  have hX7 := hid (hX6.out.below hb hX6.out.lt)
  have hT7 := hid (hT6.out.on (hb.block b hT6.out.lt))
  have hb7 := hid (hb6.out.trans (hb.mono hb6.out.size))
  have hr7 := hid (rown_onF hr6.out hb)
  clear hb hBl
  have hZ := hid (hash_cells (List.replicate 32 0) rfl)
  go_wp2_with (first
    | ((with_reducible refine at_slot (some 13) ?_); refine wpList_run rfl (.pointer (some ⟨W7.heap.size, 0, none⟩)) (W7.alloc (.cells z32 33)) (by kernel_rfl) ?_)
    | ((with_reducible refine at_slot none ?_); refine wpList_store_mid rfl 33 (.tmp 13) (.tmp 45) rfl W7.heap.size 0 z32 rfl rfl (by exact hZ.out.there W7) (by exact hZ.out.size) (by exact hZ.out.one) ?_; generalize hW : World.setCells _ _ _ _ = W8; obtain ⟨hN, hb⟩ := hZ.out.new hW; clear hW hN; have hX8 := hid (hX7.out.below hb hX7.out.lt); have hT8 := hid (hT7.out.on (hb.block b hT7.out.lt)); have hb8 := hid (hb7.out.trans (hb.mono hb7.out.size)); have hr8 := hid (rown_onF hr7.out hb); clear hb; have c0 := hT8.out.cell (i := 0) rfl)
    | (go_at_call 13; refine (errNum_any _ _).mono ?_; rintro e w' ⟨rfl, rfl⟩)
    | ((with_reducible refine at_slot (some 78) ?_); refine wpL_loadH (by kernel_rfl) (.tmp 1) rfl rfl hh32.out hX8.out ?_)
    | ((with_reducible refine at_slot (some 79) ?_); refine wpL_buildH (by kernel_rfl) (.tmp 78) rfl rfl hh32.out ?_; obtain ⟨W9, hW9⟩ : ∃ V, W8.alloc (.cells (byteCells hh).toArray 33) = V := ⟨_, rfl⟩; have hb : Below W8.heap.size W8 W9 := (by rw [← hW9]; exact (Below.refl _ _).alloc (Nat.le_refl _) _); have hn9 := hid (show Holds W9 W8.heap.size 33 (byteCells hh) from by rw [← hW9]; exact Holds.new W8 33 (byteCells hh).toArray); rw [hW9]; have hX9 := hid (hX8.out.below hb hX8.out.lt); have hT9 := hid (hT8.out.on (hb.block b hT8.out.lt)); have hb9 := hid (hb8.out.trans (hb.mono hb8.out.size)); have hr9 := hid (rown_onF hr8.out hb); clear hb hW9)
    | (go_at_call 33; refine (SameHashs_any A4 1 c4 [hh] (some ⟨W8.heap.size, 0, none⟩) 1 W9.heap.size W9 (own_hashs hr9.out (fun x hx => by rw [List.mem_singleton.1 hx]; exact hh32.out)) (by decide) (hashs_one hh32.out hn9.out)).mono ?_; rintro e W10 ⟨rfl, m, rfl⟩)
    | fail)
  go_ret
  exact ⟨rfl, below_drewN hb9.out _⟩

end Go.Proofs.Ytpjfhbmegabafaa
namespace Go.Proofs.Ytpjfhbmegabafaa
open Go.RowKit
open Go.Lib (strCells strCells_length strCells_oneCell)
attribute [local irreducible] Sha.compress Sha.blocks Sha.sha Sha.pad

theorem texts_row {w : World} {B n c : Nat} {A : Option Addr} {xs : List ByteArray} (h : w.ownsRow B 9 1 (.slice A n c) n (strs xs)) : n = xs.length ∧ Texts w w.heap.size A n xs := by
  have hl : n = xs.length := by have := h.1; simp [strs] at this; omega
  refine ⟨hl, ⟨h.1, ?_⟩⟩
  obtain ⟨b, h1, h2, -, h4, -⟩ := own_txts h
  by_cases hn : n = 0
  · exact .inl hn
  · refine .inr ⟨_, h1 (by omega), (h4 (by omega)).2, fun j hj => ?_⟩
    rw [show (⟨b, 0, none⟩ : Addr).add j = ⟨b, j, none⟩ from by unfold Addr.add; split <;> simp_all]
    have hj2 : j < xs.length := by simp [strs] at hj; exact hj
    rw [(h2 (by omega)).cell (List.getElem?_eq_getElem hj2)]
    simp [strs]
/-- Both builds answer the same. -/
theorem both_build (data : ByteArray) : ∃ (H : List UInt8) (E : Int) (ts : List ByteArray), H.length = 32 ∧ (∀ V, Calls Try.prog 25 #[.string data] V fun e V' => ∃ A c, e = .returned (.tuple #[.agg (byteCells H).toArray, .slice A ts.length c, .int .i64 E]) ∧ Texts V' V'.heap.size A ts.length ts ∧ Below V.heap.size V V') ∧
    (∀ V, Calls Try.prog 26 #[.string data] V fun e V' => ∃ A c, e = .returned (.tuple #[.agg (byteCells H).toArray, .slice A ts.length c, .int .i64 E]) ∧ Texts V' V'.heap.size A ts.length ts ∧ Below V.heap.size V V') ∧ ts.length ≤ 100000000000000 := by
  by_cases hd : data.size ≤ 4096
  · refine ⟨obHash (rootT data), 0, unlikeT (treeT data), obHash_len _, fun V => ?_, fun V => ?_, ?_⟩
    · refine (build_any data hd V).mono ?_
      rintro e V' ⟨A, m, c, rfl, hro, -, hb⟩
      obtain ⟨rfl, ht⟩ := texts_row hro
      exact ⟨A, c, rfl, ht, hb⟩
    · refine (refBuild_any data hd V).mono ?_
      rintro e V' ⟨A, m, c, rfl, hro, hb⟩
      obtain ⟨rfl, ht⟩ := texts_row hro
      exact ⟨A, c, rfl, ht, hb⟩
    · have h1 := foldT_len (treeT data) []
      have e0 : ([] : List ByteArray).length = 0 := rfl
      have h2 : (treeT data).length ≤ 1000 := by
        unfold treeT fansT hsT blksT
        simp only [List.length_append, List.length_map, List.length_range, List.length_singleton]
        unfold cutN
        omega
      unfold unlikeT
      omega
  · refine ⟨List.replicate 32 0, 1200, [], rfl, fun V => ?_, fun V => ?_, Nat.zero_le _⟩
    · refine (build_long data (by omega) V).mono ?_
      rintro e V' ⟨rfl, hb⟩
      exact ⟨none, 0, by kernel_rfl, ⟨rfl, .inl rfl⟩, hb⟩
    · refine (refBuild_long data (by omega) V).mono ?_
      rintro e V' ⟨rfl, hb⟩
      exact ⟨none, 0, by kernel_rfl, ⟨rfl, .inl rfl⟩, hb⟩
set_option maxRecDepth 100000 in
set_option maxHeartbeats 1000000 in
theorem Builds_law (data : ByteArray) (_hr : data.size ≤ 140737488351232) (w : World) : Calls Try.prog 6 #[.string data] w fun e w' => e = .returned (.bool true) ∧ Below w.heap.size w w' := by
  obtain ⟨H, E, ts, hH, hB, hR, hn⟩ := both_build data
  have hC := hid (hash_cells H hH)
  have hH' := hid hH
  have hB' := hid hB
  have hR' := hid hR
  have hn' := hid hn
  have h0 := hid (Below.refl w.heap.size w)
  have hHH : (H == H) = true := beq_self_eq_true H
  clear hH hB hR hn
  go_enter Try.func6, Try.ntmps6
  go_wp2_with fail
  refine (hB'.out w).mono ?_
  rintro e W1 ⟨A1, c1, rfl, ht, hb⟩
  have hb1 := hid (h0.out.trans (hb.mono h0.out.size))
  have ht1 := hid ht
  clear hb ht hB' h0
  go_wp2_with (first
    | ((with_reducible refine at_slot (some 3) ?_); refine wpList_run rfl (.pointer (some ⟨W1.heap.size, 0, none⟩)) (W1.alloc (.cells z32 33)) (by kernel_rfl) ?_)
    | ((with_reducible refine at_slot none ?_); refine wpList_store_mid rfl 33 (.tmp 3) (.tmp 12) rfl W1.heap.size 0 (byteCells H).toArray rfl rfl (by exact hC.out.there W1) (by exact hC.out.size) (by exact hC.out.one) ?_; generalize hW : World.setCells _ _ _ _ = W2; obtain ⟨hN, hb⟩ := hC.out.new hW; have hX2 := hid hN; have ht2 := hid ((ht1.out.below hb).more hb.size); have hb2 := hid (hb1.out.trans (hb.mono hb1.out.size)); clear hN hb hW)
    | fail)
  refine (hR'.out W2).mono ?_
  rintro e W3 ⟨A2, c2, rfl, ht, hb⟩
  have hb3 := hid (hb2.out.trans (hb.mono hb2.out.size))
  have hX3 := hid (hX2.out.below hb hX2.out.lt)
  have ht3 := hid ((ht2.out.below hb).more hb.size)
  have hu3 := hid ht
  clear hb ht hR'
  go_wp2_with (first
    | ((with_reducible refine at_slot (some 6) ?_); refine wpList_run rfl (.pointer (some ⟨W3.heap.size, 0, none⟩)) (W3.alloc (.cells z32 33)) (by kernel_rfl) ?_)
    | ((with_reducible refine at_slot none ?_); refine wpList_store_mid rfl 33 (.tmp 6) (.tmp 18) rfl W3.heap.size 0 (byteCells H).toArray rfl rfl (by exact hC.out.there W3) (by exact hC.out.size) (by exact hC.out.one) ?_; generalize hW : World.setCells _ _ _ _ = W4; obtain ⟨hN, hb⟩ := hC.out.new hW; have hY4 := hid hN; have hX4 := hid (hX3.out.below hb hX3.out.lt); have ht4 := hid ((ht3.out.below hb).more hb.size); have hu4 := hid ((hu3.out.below hb).more hb.size); have hb4 := hid (hb3.out.trans (hb.mono hb3.out.size)); clear hN hb hW)
    | ((with_reducible refine at_slot (some 21) ?_); refine wpL_loadH (by kernel_rfl) (.tmp 3) rfl rfl hH'.out hX4.out ?_)
    | ((with_reducible refine at_slot (some 22) ?_); refine wpL_loadH (by kernel_rfl) (.tmp 6) rfl rfl hH'.out hY4.out ?_)
    | ((with_reducible refine at_slot (some 23) ?_); refine wpList_zeql (by kernel_rfl) (.tmp 21) (.tmp 22) _ rfl H H hH'.out hH'.out true hHH rfl rfl ?_)
    | fail)
  refine (SameTexts_any A1 ts.length c1 ts A2 c2 W4.heap.size W4 ht4.out hn'.out hu4.out).mono ?_
  rintro e w' ⟨rfl, m, rfl⟩
  have hb5 := hid (below_drewN hb4.out m)
  go_wp2_with (go_at_call 13; refine (errNum_any _ _).mono ?_; rintro e w' ⟨rfl, rfl⟩)
  refine (awake12_any _).mono ?_
  rintro e w' ⟨rfl, hb⟩
  have hb6 := hid (hb5.out.trans (hb.mono hb5.out.size))
  clear hb
  go_wp2_with fail
  go_ret
  exact ⟨rfl, hb6.out⟩

end Go.Proofs.Ytpjfhbmegabafaa
