/- Layer 12, the reference's side: BuildFile. -/
import Derived.Test.YtpjfhbmegabafaaKFtR
namespace Go.Proofs.Ytpjfhbmegabafaa
open Go.RowKit
attribute [local irreducible] Sha.compress Sha.blocks Sha.sha Sha.pad

section
variable {ops : Array Oper} {rest : List Oper} {a : Act} {w : World} {Q : Exit → Act → World → Prop}
theorem wpList_pushHashF {o1 o2 : Oper} (hg1 : o1.guard = none) (hg2 : o2.guard = none) (x s y : Operand) (ho1 : o1.op = .buildSlice 62 1 #[(0, x)]) (ho2 : o2.op = .call { callee := .builtin .append, args := #[s, y], argTypes := #[62, 62] })
    (B : Nat) (A : Option Addr) (n c : Nat) (cs : List Value) (l : List UInt8) (h32 : l.length = 32) (hx : a.eval x = .agg (byteCells l).toArray) (hs : (a.put o1.dst (.slice (some ⟨w.heap.size, 0, none⟩) 1 1)).eval s = .slice A n c) (hy : (a.put o1.dst (.slice (some ⟨w.heap.size, 0, none⟩) 1 1)).eval y = .slice (some ⟨w.heap.size, 0, none⟩) 1 1)
    (h63 : n ≤ 1000000) (hown : w.ownsRow B 33 32 (.slice A n c) n cs) (hB : B ≤ w.heap.size)
    (m : Nat) (hm : n + 1 = m) (h : ∀ A2 c2 w', w'.ownsRow B 33 32 (.slice A2 m c2) m (cs ++ byteCells l) → w.grownBy w' (Value.slice A n c).ownBlock → wpList Try.prog ops Q rest ((a.put o1.dst (.slice (some ⟨w.heap.size, 0, none⟩) 1 1)).put o2.dst (.slice A2 m c2)) w') :
    wpList Try.prog ops Q (o1 :: o2 :: rest) a w := by
  subst hm
  have hC := hash_cells l h32
  obtain ⟨i0, hi0, hz0, hz1, hz2⟩ := info_parts Try.infoHashD
  have hb1 : Below w.heap.size w (w.alloc (.cells (byteCells l).toArray 33)) := (Below.refl _ _).alloc (Nat.le_refl _) _
  refine wpList_plain hg1 fun K hK => ?_
  refine wp_build_oneF 62 33 x ho1 i0 _ Try.underlying62 hi0 hz0 (byteCells l).toArray hx (by rw [hz1, List.size_toArray, hC.len]) (by rw [List.size_toArray, hC.len]; decide) (by rw [List.size_toArray, hC.len]; decide) ?_
  refine hK _ _ ?_
  clear hK K
  refine wpList_plain hg2 fun K hK => ?_
  refine wp_appendH s y ho2 B A n c w.heap.size cs l hs hy h32 h63 (rown_onF hown hb1) (Holds.new w 33 (byteCells l).toArray) (Nat.le_trans hB hb1.size) ?_
  intro A2 c2 w' hrow hg _
  exact hK _ _ (h A2 c2 w' hrow ⟨hg.os.trans hb1.os, hg.tape.trans hb1.tape, hg.output.trans hb1.output, Nat.le_trans hb1.size hg.size, fun k hk hne => (hg.block k (Nat.lt_of_lt_of_le hk hb1.size) hne).trans (hb1.block k hk)⟩)
end
theorem rows_lower {w : World} {B n size : Nat} {e : TypeId} {v : Value} {xs : List Value} (h : w.ownsRow B e size v n xs) : w.ownsRow 0 e size v n xs := by
  refine ⟨h.1, ?_⟩
  rcases h.2 with hn | ⟨q, cap, cur, hv, hb, rest⟩
  · exact .inl hn
  · exact .inr ⟨q, cap, cur, hv, Nat.zero_le _, rest⟩
/-- What BuildFile holds in its rounds: its objects, the hashes of this row (and those of the row before). -/
structure RbAt (w : World) (g : Nat) (W : World) (A5 : Option Addr) (m5 c5 : Nat) (A6 : Option Addr) (k c6 : Nat) (os : List ByteArray) (hs : List (List UInt8)) : Prop where
  obs : W.ownsRow (g + 1) 9 1 (.slice A5 m5 c5) m5 (strs os)
  row : W.ownsRow (g + 1) 33 32 (.slice A6 k c6) k (hashCells hs)
  res : Holds W g 33 z32.toList
  bel : Below g w W
section
variable {w W W' : World} {g m5 c5 k c6 : Nat} {A5 A6 : Option Addr} {os : List ByteArray} {hs : List (List UInt8)}
theorem RbAt.on (h : RbAt w g W A5 m5 c5 A6 k c6 os hs) (hb : Below W.heap.size W W') : RbAt w g W' A5 m5 c5 A6 k c6 os hs :=
  ⟨rown_onF h.obs hb, rown_onF h.row hb, h.res.below hb h.res.lt, h.bel.trans (hb.mono (Nat.le_of_lt h.res.lt))⟩
theorem RbAt.once {m' c' : Nat} {A' : Option Addr} {os' : List ByteArray} (h : RbAt w g W A5 m5 c5 A6 k c6 os hs) (hr : W'.ownsRow (g + 1) 9 1 (.slice A' m' c') m' (strs os')) (hg : W.grownBy W' (Value.slice A5 m5 c5).ownBlock) : RbAt w g W' A' m' c' A6 k c6 os' hs := by
  have hlo := fun q e => (h.obs.lt q e).1
  refine ⟨hr, rown_block h.row fun q hq => hg.block q (h.row.lt q hq).2 (fun e => ?_), h.res.grown hg (fun e => by have := hlo _ e.symm; omega), h.bel.trans ⟨hg.os, hg.tape, hg.output, hg.size, fun q hq => hg.block q (Nat.lt_trans hq h.res.lt) (fun e => by have := hlo _ e.symm; omega)⟩⟩
  obtain ⟨cs, h1⟩ := own_hold h.obs e.symm
  exact own_neF h.row hq h1 (by decide) rfl
theorem RbAt.push {k' c' : Nat} {A' : Option Addr} {hs' : List (List UInt8)} (h : RbAt w g W A5 m5 c5 A6 k c6 os hs) (hr : W'.ownsRow (g + 1) 33 32 (.slice A' k' c') k' (hashCells hs')) (hg : W.grownBy W' (Value.slice A6 k c6).ownBlock) : RbAt w g W' A5 m5 c5 A' k' c' os hs' := by
  have hlo := fun q e => (h.row.lt q e).1
  refine ⟨rown_block h.obs fun q hq => hg.block q (h.obs.lt q hq).2 (fun e => ?_), hr, h.res.grown hg (fun e => by have := hlo _ e.symm; omega), h.bel.trans ⟨hg.os, hg.tape, hg.output, hg.size, fun q hq => hg.block q (Nat.lt_trans hq h.res.lt) (fun e => by have := hlo _ e.symm; omega)⟩⟩
  obtain ⟨cs, h1⟩ := own_hold h.row e.symm
  exact own_neF h.obs hq h1 (by decide) rfl
end

/-- The same in the second loop: the row of hashes before, and this one. -/
structure Rb2 (w : World) (g s2 : Nat) (W : World) (A5 : Option Addr) (m5 c5 : Nat) (A6 : Option Addr) (k c6 : Nat) (A7 : Option Addr) (k2 c7 : Nat) (os : List ByteArray) (hs fs : List (List UInt8)) : Prop where
  rb : RbAt w g W A5 m5 c5 A6 k c6 os hs
  inn : W.ownsRow s2 33 32 (.slice A7 k2 c7) k2 (hashCells fs)
  lo : ∀ q, (Value.slice A6 k c6).ownBlock = some q → q < s2
  gs : g < s2 ∧ s2 ≤ W.heap.size
section
variable {w W W' : World} {g s2 m5 c5 k c6 k2 c7 : Nat} {A5 A6 A7 : Option Addr} {os : List ByteArray} {hs fs : List (List UInt8)}
theorem Rb2.on (h : Rb2 w g s2 W A5 m5 c5 A6 k c6 A7 k2 c7 os hs fs) (hb : Below W.heap.size W W') : Rb2 w g s2 W' A5 m5 c5 A6 k c6 A7 k2 c7 os hs fs :=
  ⟨h.rb.on hb, rown_onF h.inn hb, h.lo, h.gs.1, Nat.le_trans h.gs.2 hb.size⟩
theorem Rb2.once {m' c' : Nat} {A' : Option Addr} {os' : List ByteArray} (h : Rb2 w g s2 W A5 m5 c5 A6 k c6 A7 k2 c7 os hs fs) (hr : W'.ownsRow (g + 1) 9 1 (.slice A' m' c') m' (strs os')) (hg : W.grownBy W' (Value.slice A5 m5 c5).ownBlock) : Rb2 w g s2 W' A' m' c' A6 k c6 A7 k2 c7 os' hs fs := by
  refine ⟨h.rb.once hr hg, rown_block h.inn fun q hq => hg.block q (h.inn.lt q hq).2 (fun e => ?_), h.lo, h.gs.1, Nat.le_trans h.gs.2 hg.size⟩
  obtain ⟨cs, h1⟩ := own_hold h.rb.obs e.symm
  exact own_neF h.inn hq h1 (by decide) rfl
theorem Rb2.push {k' c' : Nat} {A' : Option Addr} {fs' : List (List UInt8)} (h : Rb2 w g s2 W A5 m5 c5 A6 k c6 A7 k2 c7 os hs fs) (hr : W'.ownsRow s2 33 32 (.slice A' k' c') k' (hashCells fs')) (hg : W.grownBy W' (Value.slice A7 k2 c7).ownBlock) : Rb2 w g s2 W' A5 m5 c5 A6 k c6 A' k' c' os hs fs' := by
  have hlo := fun q e => (h.inn.lt q e).1
  have hgs := h.gs
  refine ⟨⟨rown_block h.rb.obs fun q hq => hg.block q (h.rb.obs.lt q hq).2 (fun e => ?_), rown_block h.rb.row fun q hq => hg.block q (h.rb.row.lt q hq).2 (fun e => by have := hlo _ e.symm; have := h.lo q hq; omega), h.rb.res.grown hg (fun e => by have := hlo _ e.symm; omega), h.rb.bel.trans ⟨hg.os, hg.tape, hg.output, hg.size, fun q hq => hg.block q (Nat.lt_trans hq h.rb.res.lt) (fun e => by have := hlo _ e.symm; omega)⟩⟩, hr, h.lo, h.gs.1, Nat.le_trans h.gs.2 hg.size⟩
  obtain ⟨cs, h1⟩ := own_hold h.inn e.symm
  exact own_neF h.rb.obs hq h1 (by decide) rfl
end

set_option maxRecDepth 100000 in
set_option maxHeartbeats 4000000 in
theorem refBuild_any (data : ByteArray) (hd : data.size ≤ 4096) (w : World) :
    Calls Try.prog 26 #[.string data] w fun e w' => ∃ A m c, e = .returned (.tuple #[.agg (byteCells (obHash (rootT data))).toArray, .slice A m c, .int .i64 0]) ∧ w'.ownsRow 0 9 1 (.slice A m c) m (strs (unlikeT (treeT data))) ∧ Below w.heap.size w w' := by
  have hd' : ¬ (4096 : Int) < (data.size : Int) := by omega
  obtain ⟨g, hg⟩ : ∃ g, w.heap.size = g := ⟨_, rfl⟩
  have hgw := hid hg
  obtain ⟨W0, hW0⟩ : ∃ V, w.alloc (.cells z32 33) = V := ⟨_, rfl⟩
  have h0 := hid (show RbAt w g W0 none 0 0 none 0 0 [] [] from ⟨World.ownsRow_nil _ _ _ _, World.ownsRow_nil _ _ _ _, by rw [← hW0, ← hg]; exact Holds.new w _ z32, by rw [← hW0, ← hg]; exact (Below.refl _ _).alloc (Nat.le_refl _) _⟩)
  have hW0' := hid hW0
  clear hg hW0
  go_enter Try.func26, Try.ntmps26
  go_wp2_with (first
    | ((with_reducible refine at_slot (some 2) ?_); refine wpList_run rfl (.pointer (some ⟨g, 0, none⟩)) (w.alloc (.cells z32 33)) (by rw [← hgw.out]; kernel_rfl) ?_; rw [hW0'.out])
    | fail)
  go_loopw [5, 6, 8] (fun s5 s6 i wr => ∃ (k : Nat) (A5 : Option Addr) (m5 c5 : Nat) (A6 : Option Addr) (c6 : Nat), k ≤ cutN 64 data.size ∧ i = .int .i64 ((k * 64 : Nat) : Int) ∧ s5 = .slice A5 m5 c5 ∧ s6 = .slice A6 k c6 ∧ m5 ≤ k ∧ RbAt w g wr A5 m5 c5 A6 k c6 (((List.range k).map (fblkT data)).foldl addT []) (((List.range k).map (fblkT data)).map obHash)) (fun _ _ i _ => 5000 - (intOf i).toNat)
  case atStart => exact ⟨0, none, 0, 0, none, 0, Nat.zero_le _, rfl, rfl, rfl, Nat.le_refl _, h0.out⟩
  case round =>
    obtain ⟨k, A5, m5, c5, A6, c6, hk, rfl, rfl, rfl, hm5, hR⟩ := hrel
    obtain ⟨W10, rfl⟩ : ∃ V, V = wr := ⟨_, rfl⟩
    have hR10 := hid hR
    clear hR
    by_cases hlt : k * 64 < data.size
    · have hki : ((k * 64 : Nat) : Int) < (data.size : Int) := by omega
      obtain ⟨q, hq⟩ : ∃ q, k * 64 = q := ⟨_, rfl⟩
      have hq' := hid hq
      rw [hq] at hki hlt ⊢
      obtain ⟨e, he⟩ : ∃ e, q + min 64 (data.size - q) = e := ⟨_, rfl⟩
      have he' := hid he
      have hmin : min (data.size : Int) ((q : Int) + 64) = (e : Int) := by omega
      have hw1 := IntWalk.i64_in ((q : Int) + 64) (by omega)
      have hqe : q ≤ e := by omega
      have hes : e ≤ data.size := by omega
      obtain ⟨bl, hbl⟩ : ∃ x, fblkT data k = x := ⟨_, rfl⟩
      have hb1 : (⟨#[66]⟩ : ByteArray) ++ data.extract q e = bl := by rw [← hbl, ← he, ← hq]; rfl
      have hbz := hid (show bl.size ≤ 65536 from by rw [← hbl, fblkT_size]; omega)
      obtain ⟨bh, hbh⟩ : ∃ l, obHash bl = l := ⟨_, rfl⟩
      have hbh32 := hid (show bh.length = 32 from by rw [← hbh]; exact obHash_len _)
      obtain ⟨os, hos⟩ : ∃ l, ((List.range k).map (fblkT data)).foldl addT [] = l := ⟨_, rfl⟩
      have hos2 := hid (show ((List.range (k + 1)).map (fblkT data)).foldl addT [] = addT os bl from by rw [List.range_succ, List.map_append, List.foldl_append, hos, List.map_cons, List.map_nil, hbl]; rfl)
      obtain ⟨hs, hhs⟩ : ∃ l, ((List.range k).map (fblkT data)).map obHash = l := ⟨_, rfl⟩
      have hhs2 := hid (show hashCells (((List.range (k + 1)).map (fblkT data)).map obHash) = hashCells hs ++ byteCells bh from by rw [List.range_succ, List.map_append, List.map_append, hhs, hashCells_append, List.map_cons, List.map_nil, List.map_cons, List.map_nil, hbl, hbh, hashCells_one])
      rw [hos, hhs] at hR10
      obtain ⟨k1, hk1⟩ : ∃ n, k + 1 = n := ⟨_, rfl⟩
      have hk1' := hid hk1
      have h64 : cutN 64 data.size ≤ 64 := by unfold cutN; omega
      have hkc : k < cutN 64 data.size := (cutN_lt (by decide)).2 (by rw [hq]; exact hlt)
      have hkl := hid (show k ≤ 64 ∧ k1 ≤ cutN 64 data.size from ⟨by omega, by omega⟩)
      clear h64 hkc
      have hObj := hid (fun V => rObjH hbh hbz.out V)
      have hgz := hid (show g + 1 ≤ W10.heap.size from hR10.out.res.lt)
      have hm5' := hid hm5
      clear hq he hbl hbh hos hhs hk1 hk
      go_wp2_with fail
      refine (once_any (g + 1) A5 m5 c5 os bl W10 hR10.out.obs hgz.out (by have := hm5'.out; have := hkl.out.1; omega)).mono ?_
      rintro e2 W11 ⟨A7, m7, c7, rfl, hrow, hgr, -⟩
      have hR11 := hid (hR10.out.once hrow hgr)
      have hm7 := hid (show m7 ≤ k1 from by
        obtain ⟨_, _, _, _, _, h1⟩ := own_txts hrow
        obtain ⟨_, _, _, _, _, h2⟩ := own_txts hR10.out.obs
        have := addT_len os bl
        have := hk1'.out
        omega)
      have hgz1 := hid (show g + 1 ≤ W11.heap.size from hR11.out.res.lt)
      clear hrow hgr hR10 hb1
      go_wp2_with (first
        | (go_at_call 17; refine (hObj.out W11).mono ?_; rintro e3 W12 ⟨rfl, hb⟩; have hR12 := hid (hR11.out.on hb); have hgz2 := hid (show g + 1 ≤ W12.heap.size from hR12.out.res.lt); clear hb)
        | ((with_reducible refine at_slot (some 38) ?_); refine wpList_pushHashF rfl rfl (.tmp 37) (.tmp 35) (.tmp 38) rfl rfl (g + 1) A6 k c6 (hashCells hs) bh hbh32.out rfl rfl rfl (by have := hkl.out.1; omega) (by exact hR12.out.row) (by exact hgz2.out) k1 hk1'.out ?_; intro A9 c9 W13 hrow hgr; have hR13 := hid (hR12.out.push (hs' := ((List.range (k + 1)).map (fblkT data)).map obHash) (by rw [hhs2.out]; exact hrow) hgr); clear hrow hgr)
        | fail)
      go_roundw
      case rel =>
        obtain rfl := hk1'.out
        exact ⟨k + 1, A7, m7, c7, A9, c9, hkl.out.2, by have := hq'.out; first | (congr 1; omega) | omega, rfl, rfl, hm7.out, by rw [hos2.out]; exact hR13.out⟩
      case measure =>
        have := hq'.out
        simp only [intOf]
        omega
    · have hkn : k = cutN 64 data.size := by
        have := mt (cutN_lt (len := data.size) (i := k) (n := 64) (by decide)).1 (by omega)
        omega
      have hn64 : k ≤ 64 := by rw [hkn]; unfold cutN; omega
      obtain ⟨os, hos⟩ : ∃ l, (blksT data).foldl addT [] = l := ⟨_, rfl⟩
      obtain ⟨hs, hhs⟩ : ∃ l, hsT data = l := ⟨_, rfl⟩
      have hhs' : ((List.range k).map (fblkT data)).map obHash = hs := by rw [← hhs, hkn]; rfl
      have hos' : ((List.range k).map (fblkT data)).foldl addT [] = os := by rw [← hos, hkn]; rfl
      rw [hhs', hos'] at hR10
      have hsl := hid (show hs.length = k from by rw [← hhs', List.length_map, List.length_map, List.length_range])
      have hs32 := hid (show ∀ x ∈ hs, x.length = 32 from by
        rw [← hhs]
        intro x hx
        obtain ⟨y, -, rfl⟩ := List.mem_map.1 hx
        exact obHash_len y)
      have hos2 := hid hos
      have hhs2 := hid hhs
      have hkn' := hid hkn
      obtain ⟨q, hq⟩ : ∃ q, k * 64 = q := ⟨_, rfl⟩
      rw [hq] at hlt ⊢
      have hki : ¬ (q : Int) < (data.size : Int) := by omega
      clear hos hhs hhs' hos' hk hkn hq
      go_wp2_with fail
      obtain ⟨s2, hs2⟩ : ∃ q, W10.heap.size = q := ⟨_, rfl⟩
      obtain ⟨b, hb1, hb2, hb3, hb4, hkc, hcm⟩ := own_rowH hR10.out.row
      have hA6 := hid hb1
      have hlo6 : ∀ q, (Value.slice A6 k c6).ownBlock = some q → q < s2 := fun q e => by have := (hR10.out.row.lt q e).2; omega
      have h02 := hid (show Rb2 w g s2 W10 A5 m5 c5 A6 k c6 none 0 0 os hs [] from ⟨hR10.out, World.ownsRow_nil _ _ _ _, hlo6, by rw [← hs2]; exact hR10.out.res.lt, by omega⟩)
      have hm5' := hid (show m5 ≤ 64 from by omega)
      have hs2' := hid hs2
      clear hb1 hb2 hb3 hb4 hlo6 hs2 hR10
      go_loopw [5, 7, 10] (fun s5 s7 i wr => ∃ (j : Nat) (B5 : Option Addr) (m6 d5 : Nat) (A7 : Option Addr) (c7 : Nat), j ≤ cutN 8 k ∧ i = .int .i64 ((j * 8 : Nat) : Int) ∧ s5 = .slice B5 m6 d5 ∧ s7 = .slice A7 j c7 ∧ m6 ≤ 64 + j ∧ Rb2 w g s2 wr B5 m6 d5 A6 k c6 A7 j c7 (((List.range j).map (fanT hs)).foldl addT os) hs (((List.range j).map (fanT hs)).map obHash)) (fun _ _ i _ => 5000 - (intOf i).toNat)
      case atStart => exact ⟨0, A5, m5, c5, none, 0, Nat.zero_le _, rfl, rfl, rfl, hm5'.out, h02.out⟩
      case round =>
        obtain ⟨j, B5, m6, d5, A7, c7, hj, rfl, rfl, rfl, hm6, hR⟩ := hrel
        obtain ⟨W10, rfl⟩ : ∃ V, V = wr := ⟨_, rfl⟩
        have hR10 := hid hR
        clear hR
        by_cases hlt : j * 8 < k
        · obtain rfl := hA6.out (by omega)
          obtain ⟨q, hq⟩ : ∃ q, j * 8 = q := ⟨_, rfl⟩
          have hq' := hid hq
          rw [hq] at hlt ⊢
          have hki : (q : Int) < (k : Int) := by omega
          obtain ⟨e, he⟩ : ∃ e, q + min 8 (k - q) = e := ⟨_, rfl⟩
          have he' := hid he
          have hmin : min (k : Int) ((q : Int) + 8) = (e : Int) := by omega
          have hw1 := IntWalk.i64_in ((q : Int) + 8) (by omega)
          have hqe : q ≤ e := by omega
          have hes : e ≤ k := by omega
          have hec : e ≤ c6 := by omega
          obtain ⟨bl, hbl⟩ : ∃ x, fanT hs j = x := ⟨_, rfl⟩
          have hbz := hid (show bl.size ≤ 65536 from by rw [← hbl]; have := fanT_size hs32.out j; omega)
          obtain ⟨bh, hbh⟩ : ∃ l, obHash bl = l := ⟨_, rfl⟩
          have hbh32 := hid (show bh.length = 32 from by rw [← hbh]; exact obHash_len _)
          have hrh : 0 < k → RowH W10 b hs := fun h => by
            obtain ⟨b', h1, h2, -⟩ := own_rowH hR10.out.rb.row
            have e1 := h1 h
            injection e1 with e1
            injection e1 with e1
            rw [e1]
            exact h2 h
          have hH := hash_piece hsl.out hs32.out hrh j
          rw [hq, show min 8 (k - q) = e - q from by omega] at hH
          have hRow := hid (show Calls Try.prog 47 #[.string ⟨#[73]⟩, .slice (some ⟨b, q * 32, none⟩) (e - q) (c6 - q)] W10 fun e w' => e = .returned (.string bl) ∧ Below W10.heap.size W10 w' from by
            rw [← hbl]
            unfold fanT
            rw [hq]
            exact refRow_any ⟨#[73]⟩ (by decide) _ _ _ _ W10 hH (by omega))
          obtain ⟨os2, hos3⟩ : ∃ l, ((List.range j).map (fanT hs)).foldl addT os = l := ⟨_, rfl⟩
          have hos4 := hid (show ((List.range (j + 1)).map (fanT hs)).foldl addT os = addT os2 bl from by rw [List.range_succ, List.map_append, List.foldl_append, hos3, List.map_cons, List.map_nil, hbl]; rfl)
          obtain ⟨fs, hfs⟩ : ∃ l, ((List.range j).map (fanT hs)).map obHash = l := ⟨_, rfl⟩
          have hfs2 := hid (show hashCells (((List.range (j + 1)).map (fanT hs)).map obHash) = hashCells fs ++ byteCells bh from by rw [List.range_succ, List.map_append, List.map_append, hfs, hashCells_append, List.map_cons, List.map_nil, List.map_cons, List.map_nil, hbl, hbh, hashCells_one])
          rw [hos3, hfs] at hR10
          obtain ⟨j1, hj1⟩ : ∃ n, j + 1 = n := ⟨_, rfl⟩
          have hj1' := hid hj1
          have hjl := hid (show j ≤ 64 ∧ j1 ≤ cutN 8 k from ⟨by omega, by have := (cutN_lt (n := 8) (len := k) (i := j) (by decide)).2 (by omega); omega⟩)
          have hObj := hid (fun V => rObjH hbh hbz.out V)
          have hm6' := hid hm6
          clear hq he hbl hbh hos3 hfs hj1 hj hH hrh
          go_wp2_with fail
          refine hRow.out.mono ?_
          rintro e2 Wa ⟨rfl, hb⟩
          have hRa := hid (hR10.out.on hb)
          have hgz := hid (show g + 1 ≤ Wa.heap.size from hRa.out.rb.res.lt)
          clear hb hR10
          go_wp2_with fail
          refine (once_any (g + 1) B5 m6 d5 os2 bl Wa hRa.out.rb.obs hgz.out (by have := hm6'.out; have := hjl.out.1; omega)).mono ?_
          rintro e2 Wb ⟨B7, m7, d7, rfl, hrow, hgr, -⟩
          have hRb := hid (hRa.out.once hrow hgr)
          have hm7 := hid (show m7 ≤ 64 + j1 from by
            obtain ⟨_, _, _, _, _, h1⟩ := own_txts hrow
            obtain ⟨_, _, _, _, _, h2⟩ := own_txts hRa.out.rb.obs
            have := addT_len os2 bl
            have := hj1'.out
            omega)
          clear hrow hgr hRa
          go_wp2_with (first
            | (go_at_call 17; refine (hObj.out Wb).mono ?_; rintro e3 Wc ⟨rfl, hb⟩; have hRc := hid (hRb.out.on hb); clear hb)
            | ((with_reducible refine at_slot (some 61) ?_); refine wpList_pushHashF rfl rfl (.tmp 60) (.tmp 58) (.tmp 61) rfl rfl s2 A7 j c7 (hashCells fs) bh hbh32.out rfl rfl rfl (by have := hjl.out.1; omega) (by exact hRc.out.inn) (by exact hRc.out.gs.2) j1 hj1'.out ?_; intro A9 c9 Wd hrow hgr; have hRd := hid (hRc.out.push (fs' := ((List.range (j + 1)).map (fanT hs)).map obHash) (by rw [hfs2.out]; exact hrow) hgr); clear hrow hgr)
            | fail)
          go_roundw
          case rel =>
            obtain rfl := hj1'.out
            exact ⟨j + 1, B7, m7, d7, A9, c9, hjl.out.2, by have := hq'.out; first | (congr 1; omega) | omega, rfl, rfl, hm7.out, by rw [hos4.out]; exact hRd.out⟩
          case measure =>
            have := hq'.out
            simp only [intOf]
            omega
        · have hjn : j = cutN 8 k := by
            have := mt (cutN_lt (len := k) (i := j) (n := 8) (by decide)).1 (by omega)
            omega
          have hn8 : j ≤ 8 := by rw [hjn]; unfold cutN; omega
          have hfe : (List.range j).map (fanT hs) = fansT hs := by rw [hjn, ← hsl.out]; rfl
          rw [hfe] at hR10
          obtain ⟨os2, hos3⟩ : ∃ l, (fansT hs).foldl addT os = l := ⟨_, rfl⟩
          obtain ⟨fs, hfs⟩ : ∃ l, (fansT hs).map obHash = l := ⟨_, rfl⟩
          rw [hos3, hfs] at hR10
          have hfs32 : ∀ x ∈ fs, x.length = 32 := by
            rw [← hfs]
            intro x hx
            obtain ⟨y, -, rfl⟩ := List.mem_map.1 hx
            exact obHash_len y
          have hfsl : fs.length = j := by rw [← hfs, List.length_map, ← hfe, List.length_map, List.length_range]
          have hft : fsT data = fs := by unfold fsT; rw [hhs2.out, hfs]
          obtain ⟨rt, hrt⟩ : ∃ x, nodeB ⟨#[82]⟩ fs = x := ⟨_, rfl⟩
          have hroot := hid (show rootT data = rt from by unfold rootT; rw [hft, hrt])
          have htree := hid (show unlikeT (treeT data) = addT os2 rt from by
            unfold unlikeT treeT
            rw [List.foldl_append, List.foldl_append, hos2.out, hhs2.out, hos3, hroot.out]
            rfl)
          have hrz := hid (show rt.size ≤ 65536 from by
            rw [← hrt, nodeB_size hfs32]
            show 1 + 1 + _ ≤ 65536
            omega)
          obtain ⟨rh, hrh⟩ : ∃ l, obHash rt = l := ⟨_, rfl⟩
          have hrh32 := hid (show rh.length = 32 from by rw [← hrh]; exact obHash_len _)
          have hrh' := hid hrh
          have hC := hid (hash_cells rh hrh32.out)
          have hObj := hid (fun V => rObjH hrh hrz.out V)
          have hRow := hid (show Calls Try.prog 47 #[.string ⟨#[82]⟩, .slice A7 j c7] W10 fun e w' => e = .returned (.string rt) ∧ Below W10.heap.size W10 w' from by
            rw [← hrt]
            exact refRow_any ⟨#[82]⟩ (by decide) _ _ _ _ W10 (own_hashs hR10.out.inn hfs32) (by omega))
          have hm6' := hid hm6
          obtain ⟨q2, hq2⟩ : ∃ q, j * 8 = q := ⟨_, rfl⟩
          rw [hq2] at hlt ⊢
          have hki2 : ¬ (q2 : Int) < (k : Int) := by omega
          clear hjn hfe hos3 hfs hfs32 hfsl hft hrt hrh hj hq2
          go_wp2_with fail
          refine hRow.out.mono ?_
          rintro e2 Wa ⟨rfl, hb⟩
          have hRa := hid (hR10.out.on hb)
          have hgz := hid (show g + 1 ≤ Wa.heap.size from hRa.out.rb.res.lt)
          clear hb hR10
          go_wp2_with fail
          refine (once_any (g + 1) B5 m6 d5 os2 rt Wa hRa.out.rb.obs hgz.out (by have := hm6'.out; omega)).mono ?_
          rintro e2 Wb ⟨B7, m7, d7, rfl, hrow, hgr, -⟩
          have hRb := hid (hRa.out.once hrow hgr)
          clear hrow hgr hRa
          go_wp2_with (first
            | (go_at_call 17; refine (hObj.out Wb).mono ?_; rintro e3 Wc ⟨rfl, hb⟩; have hRc := hid (hRb.out.on hb); clear hb)
            | ((with_reducible refine at_slot none ?_); refine wpList_store_mid rfl 33 (.tmp 2) (.tmp 69) rfl g 0 (byteCells rh).toArray rfl rfl (by exact hRc.out.rb.res.there 0 _ (by rw [List.size_toArray, hC.out.len]; decide)) (by exact hC.out.size) (by exact hC.out.one) ?_; generalize hW : World.setCells _ _ _ _ = Wd; have hZ := hid (Holds.over (cs := byteCells rh) hRc.out.rb.res (by rw [hC.out.len]; rfl) hW); have hWd := hid hW; clear hW)
            | fail)
          refine bodyPost_ret (results_ctt rfl _ _ g 33 (byteCells rh).toArray (0, 0) _ (.slice B7 m7 d7) (.int .i64 0) rfl rfl hZ.out rfl Try.underlying33 rfl (by exact hC.out.size)) rfl ⟨B7, m7, d7, ?_, ?_, ?_⟩
          · rw [hroot.out, hrh'.out]
          · rw [htree.out, ← hWd.out]
            refine rows_lower (rown_block hRc.out.rb.obs fun q hq => cells_far _ _ _ _ _ (by have := (hRc.out.rb.obs.lt q hq).1; omega))
          · rw [← hWd.out, hgw.out]
            exact hRc.out.rb.bel.trans (below_setCells (Below.refl g _) g 0 _ (Nat.le_refl _))

end Go.Proofs.Ytpjfhbmegabafaa
