/- What turns only some blocks. No function of the program is named here.
   Layer 12, the program's side: shelf.Hash; what Build puts. -/
import Derived.Test.YtpjfhbmegabafaaLObPr
import Derived.Test.YtpjfhbmegabafaaLApFr
namespace Go.Proofs.Ytpjfhbmegabafaa
open Go.RowKit

/-- Of what was there only blocks of S have turned. -/
structure TurnS (S : Nat → Prop) (w w' : World) : Prop where
  os : w'.os = w.os
  tape : w'.tape = w.tape
  output : w'.output = w.output
  size : w.heap.size ≤ w'.heap.size
  block : ∀ k, k < w.heap.size → ¬ S k → w'.heap[k]? = w.heap[k]?
section
variable {S : Nat → Prop} {a b c : World} {B g : Nat}
theorem TurnS.refl (S : Nat → Prop) (a : World) : TurnS S a a := ⟨rfl, rfl, rfl, Nat.le_refl _, fun _ _ _ => rfl⟩
theorem TurnS.trans (h : TurnS S a b) (k : TurnS S b c) : TurnS S a c := ⟨k.os.trans h.os, k.tape.trans h.tape, k.output.trans h.output, Nat.le_trans h.size k.size, fun i hi hs => (k.block i (Nat.lt_of_lt_of_le hi h.size) hs).trans (h.block i hi hs)⟩
theorem TurnS.of_below (h : Below a.heap.size a b) : TurnS S a b := ⟨h.os, h.tape, h.output, h.size, fun k hk _ => h.block k hk⟩
theorem TurnS.up (h : TurnS S a b) (k : Below b.heap.size b c) : TurnS S a c := h.trans (.of_below k)
theorem TurnS.cell (h : TurnS S a b) (p : Addr) (hp : S p.block) (v : Value) : TurnS S a (b.setCell p v) :=
  ⟨h.os, h.tape, h.output, by simpa [World.setCell] using h.size, fun k hk hs => (heap_setCell_other b p k v (fun e => hs (e ▸ hp))).trans (h.block k hk hs)⟩
theorem TurnS.below (h : TurnS S a b) (hs : ∀ k, S k → B ≤ k) (hB : B ≤ a.heap.size) : Below B a b := ⟨h.os, h.tape, h.output, h.size, fun k hk => h.block k (Nat.lt_of_lt_of_le hk hB) (fun e => by have := hs k e; omega)⟩
theorem TurnS.holds {t : TypeId} {cs : List Value} (h : TurnS S a b) (hh : Holds a g t cs) (hs : ¬ S g) : Holds b g t cs := (h.block g hh.lt hs).trans hh
end

end Go.Proofs.Ytpjfhbmegabafaa
namespace Go.Proofs.Ytpjfhbmegabafaa
open Go.RowKit
open Go.Lib (strCells strCells_length strCells_oneCell)
attribute [local irreducible] Sha.compress Sha.blocks Sha.sha Sha.pad

theorem tag1_no (d : ByteArray) (hd : 65536 < d.size) (hz : d.size ≤ 140737488351232) (n : Nat) (w : World) :
    Calls Try.prog 62 #[.int .i64 0, .slice (some ⟨w.heap.size, 0, none⟩) 1 n] (w.alloc (.cells #[.string d] 9)) fun e w' => e = .returned (.tuple #[.agg (byteCells (List.replicate 32 0)).toArray, .int .i64 200]) ∧ Below w.heap.size w w' := by
  have hX := Texts.new w [d] #[.string d] rfl 1 rfl 9
  have hz : ∀ s ∈ [d], s.size ≤ 140737488351232 := fun s h => by rw [List.mem_singleton.1 h]; exact hz
  have hm : tagMay 0 [d] = false := by
    unfold tagMay
    refine decide_eq_false (fun h => ?_)
    have := h.2.2
    simp only [totS] at this
    omega
  refine (tagSum_any 0 _ 1 n _ _ hX (by decide) hz).mono ?_
  rintro e w' ⟨rfl, hb⟩
  have hb0 : Below w.heap.size w (w.alloc (.cells #[.string d] 9)) := (Below.refl _ _).alloc (Nat.le_refl _) _
  refine ⟨?_, hb0.trans (hb.mono hb0.size)⟩
  unfold tagAns
  rw [if_neg (by rw [hm]; decide)]
  rfl
set_option maxRecDepth 100000 in
set_option maxHeartbeats 1000000 in
theorem shHash_yes {d : ByteArray} (hd : d.size ≤ 65536) (w : World) : Calls Try.prog 40 #[.string d] w fun e w' => e = .returned (.tuple #[.agg (byteCells (obHash d)).toArray, .bool true]) ∧ Below w.heap.size w w' := by
  have hT := hid (fun n W => tag1_any 0 (by decide) d hd n W)
  obtain ⟨l, hl⟩ : ∃ l, obHash d = l := ⟨_, rfl⟩
  have l32 : l.length = 32 := by rw [← hl]; exact obHash_len d
  have hl' := hid hl
  rw [show Sha.sha (tagL 0 [d]) = l from hl] at hT
  have hC := hid (hash_cells l l32)
  have hC2 := hid (show (Try.prog.info? 33).map (·.size) = some (byteCells l).length from by have := hC.out.size; rwa [List.size_toArray] at this)
  obtain ⟨W0, hW0⟩ : ∃ W0, w.alloc (.cells z32 33) = W0 := ⟨_, rfl⟩
  have hZ0 := hid (show Holds W0 w.heap.size 33 z32.toList from by rw [← hW0]; exact Holds.new _ _ _)
  have hB0 := hid (show Below w.heap.size w W0 from by rw [← hW0]; exact (Below.refl _ _).alloc (Nat.le_refl _) _)
  have hW0' := hid hW0
  clear hW0 hl l32
  go_enter Try.func40, Try.ntmps40
  go_wp2_with (first
    | ((with_reducible refine at_slot (some 2) ?_); refine wpList_run rfl (.pointer (some ⟨w.heap.size, 0, none⟩)) (w.alloc (.cells z32 33)) (by kernel_rfl) ?_; rw [hW0'.out])
    | fail)
  refine (hT.out _ W0).mono ?_
  rintro e W1 ⟨rfl, hb⟩
  have hZ1 := hid (hZ0.out.below hb hZ0.out.lt)
  have hB1 := hid (below_up hb hB0.out)
  clear hb hZ0 hB0
  try (rename_i hKK; refine hKK _ _ ?_; clear hKK)
  go_wp2_with (first
    | ((with_reducible refine at_slot (some 4) ?_); refine wpList_run rfl (.pointer (some ⟨W1.heap.size, 0, none⟩)) (W1.alloc (.cells z32 33)) (by kernel_rfl) ?_)
    | ((with_reducible refine at_slot none ?_); refine wpList_store_mid rfl 33 (.tmp 4) (.tmp 10) rfl W1.heap.size 0 (byteCells l).toArray rfl rfl (by exact hC.out.there W1) (by exact hC.out.size) (by exact hC.out.one) ?_; generalize hW : World.setCells _ _ _ _ = W2; obtain ⟨hN, hb⟩ := hC.out.new hW; have hZ2 := hid (hZ1.out.below hb hZ1.out.lt); have hB2 := hid (below_up hb hB1.out); have hX2 := hid hN; clear hb hZ1 hB1 hN; clear hW)
    | ((with_reducible refine at_slot (some 12) ?_); refine wpList_load_mid rfl 33 (.tmp 4) rfl W1.heap.size 0 rfl (byteCells l) _ (by exact h_all hX2.out) Try.underlying33 rfl (by exact hC2.out) ?_)
    | ((with_reducible refine at_slot none ?_); refine wpList_store_mid rfl 33 (.tmp 2) (.tmp 12) rfl w.heap.size 0 (byteCells l).toArray rfl rfl (by exact hZ2.out.there 0 _ (by rw [List.size_toArray, hC.out.len]; decide)) (by exact hC.out.size) (by exact hC.out.one) ?_; generalize hW9 : World.setCells _ _ _ _ = W9; have hZ9 := hid (Holds.over hZ2.out (by rw [hC.out.len]; rfl) hW9); have hB9 := hid (below_put hB2.out (Nat.le_refl _) hW9); clear hW9)
    | fail)
  exact bodyPost_ret (results_ct rfl _ _ w.heap.size 33 _ (0, 0) _ rfl hZ9.out (.bool true) rfl Try.underlying33 rfl (by exact hC.out.size)) rfl ⟨by first | rw [hl'.out] | (rw [← hl'.out]; rfl), hB9.out⟩

set_option maxRecDepth 100000 in
set_option maxHeartbeats 1000000 in
theorem shHash_no {d : ByteArray} (hd : 65536 < d.size) (hz : d.size ≤ 140737488351232) (w : World) : Calls Try.prog 40 #[.string d] w fun e w' => e = .returned (.tuple #[.agg (byteCells (List.replicate 32 0)).toArray, .bool false]) ∧ Below w.heap.size w w' := by
  have hT := hid (fun n W => tag1_no d hd hz n W)
  obtain ⟨l, hl⟩ : ∃ l : List UInt8, List.replicate 32 0 = l := ⟨_, rfl⟩
  have l32 : l.length = 32 := by rw [← hl]; rfl
  have hl' := hid hl
  rw [hl] at hT
  have hC := hid (hash_cells l l32)
  have hC2 := hid (show (Try.prog.info? 33).map (·.size) = some (byteCells l).length from by have := hC.out.size; rwa [List.size_toArray] at this)
  obtain ⟨W0, hW0⟩ : ∃ W0, w.alloc (.cells z32 33) = W0 := ⟨_, rfl⟩
  have hZ0 := hid (show Holds W0 w.heap.size 33 z32.toList from by rw [← hW0]; exact Holds.new _ _ _)
  have hB0 := hid (show Below w.heap.size w W0 from by rw [← hW0]; exact (Below.refl _ _).alloc (Nat.le_refl _) _)
  have hW0' := hid hW0
  clear hW0 hl l32
  go_enter Try.func40, Try.ntmps40
  go_wp2_with (first
    | ((with_reducible refine at_slot (some 2) ?_); refine wpList_run rfl (.pointer (some ⟨w.heap.size, 0, none⟩)) (w.alloc (.cells z32 33)) (by kernel_rfl) ?_; rw [hW0'.out])
    | fail)
  refine (hT.out _ W0).mono ?_
  rintro e W1 ⟨rfl, hb⟩
  have hZ1 := hid (hZ0.out.below hb hZ0.out.lt)
  have hB1 := hid (below_up hb hB0.out)
  clear hb hZ0 hB0
  try (rename_i hKK; refine hKK _ _ ?_; clear hKK)
  go_wp2_with (first
    | ((with_reducible refine at_slot (some 4) ?_); refine wpList_run rfl (.pointer (some ⟨W1.heap.size, 0, none⟩)) (W1.alloc (.cells z32 33)) (by kernel_rfl) ?_)
    | ((with_reducible refine at_slot none ?_); refine wpList_store_mid rfl 33 (.tmp 4) (.tmp 10) rfl W1.heap.size 0 (byteCells l).toArray rfl rfl (by exact hC.out.there W1) (by exact hC.out.size) (by exact hC.out.one) ?_; generalize hW : World.setCells _ _ _ _ = W2; obtain ⟨hN, hb⟩ := hC.out.new hW; have hZ2 := hid (hZ1.out.below hb hZ1.out.lt); have hB2 := hid (below_up hb hB1.out); have hX2 := hid hN; clear hb hZ1 hB1 hN; clear hW)
    | ((with_reducible refine at_slot (some 12) ?_); refine wpList_load_mid rfl 33 (.tmp 4) rfl W1.heap.size 0 rfl (byteCells l) _ (by exact h_all hX2.out) Try.underlying33 rfl (by exact hC2.out) ?_)
    | ((with_reducible refine at_slot none ?_); refine wpList_store_mid rfl 33 (.tmp 2) (.tmp 12) rfl w.heap.size 0 (byteCells l).toArray rfl rfl (by exact hZ2.out.there 0 _ (by rw [List.size_toArray, hC.out.len]; decide)) (by exact hC.out.size) (by exact hC.out.one) ?_; generalize hW9 : World.setCells _ _ _ _ = W9; have hZ9 := hid (Holds.over hZ2.out (by rw [hC.out.len]; rfl) hW9); have hB9 := hid (below_put hB2.out (Nat.le_refl _) hW9); clear hW9)
    | fail)
  exact bodyPost_ret (results_ct rfl _ _ w.heap.size 33 _ (0, 0) _ rfl hZ9.out (.bool false) rfl Try.underlying33 rfl (by exact hC.out.size)) rfl ⟨by first | rw [hl'.out] | (rw [← hl'.out]; rfl), hB9.out⟩

theorem rown_onF {w w' : World} {n0 c k sz : Nat} {A : Option Addr} {t : TypeId} {cs : List Value} (h : w.ownsRow n0 t sz (.slice A k c) k cs) (hb : Below w.heap.size w w') : w'.ownsRow n0 t sz (.slice A k c) k cs := by
  have hlt := h.lt
  obtain ⟨h1, h2 | ⟨g, cap, cur, hv, hB, hh, rest⟩⟩ := h
  · exact ⟨h1, .inl h2⟩
  · refine ⟨h1, .inr ⟨g, cap, cur, hv, hB, ?_, rest⟩⟩
    rw [hb.block g (hlt g (by rw [hv]; rfl)).2]
    exact hh
theorem rown_block {w w' : World} {n0 c k sz : Nat} {A : Option Addr} {t : TypeId} {cs : List Value} (h : w.ownsRow n0 t sz (.slice A k c) k cs) (hb : ∀ g, (Value.slice A k c).ownBlock = some g → w'.heap[g]? = w.heap[g]?) : w'.ownsRow n0 t sz (.slice A k c) k cs := by
  obtain ⟨h1, h2 | ⟨g, cap, cur, hv, hB, hh, rest⟩⟩ := h
  · exact ⟨h1, .inl h2⟩
  · refine ⟨h1, .inr ⟨g, cap, cur, hv, hB, ?_, rest⟩⟩
    rw [hb g (by rw [hv]; rfl)]
    exact hh
/-- A row lies in no block of another type. -/
theorem own_neF {w : World} {B n k g sz : Nat} {e t : TypeId} {v : Value} {xs cs : List Value} (h : w.ownsRow B e sz v n xs) (hk : v.ownBlock = some k) (hg : Holds w g t cs) (ht : t ≠ e) : k ≠ g := by
  intro e1
  subst e1
  rcases h.2 with ⟨hn, _⟩ | ⟨q, cap, cur, hv, hb, hq, rest⟩
  · rw [hn] at hk; cases hk
  · rw [hv] at hk
    have e2 : q = k := Option.some.inj hk
    subst e2
    unfold Holds at hg
    rw [hq] at hg
    injection hg with h1
    injection h1 with _ h2
    exact ht h2.symm
theorem Try.infoTextF : (Try.prog.info? 9).map (fun i => (i.zero, i.size, i.bytes)) = some (some (.string ⟨#[]⟩), 1, 16) := by kernel_rfl
section
variable {ops : Array Oper} {rest : List Oper} {a : Act} {w : World} {Q : Exit → Act → World → Prop}
/-- One text put behind a row of texts: where the new row lies. -/
theorem wpList_pushTextF {o1 o2 : Oper} (hg1 : o1.guard = none) (hg2 : o2.guard = none) (x s y : Operand) (ho1 : o1.op = .buildSlice 50 1 #[(0, x)]) (ho2 : o2.op = .call { callee := .builtin .append, args := #[s, y], argTypes := #[50, 50] })
    (B : Nat) (A : Option Addr) (n' c : Nat) (xs : List ByteArray) (t : ByteArray) (hx : a.eval x = .string t) (hs : (a.put o1.dst (.slice (some ⟨w.heap.size, 0, none⟩) 1 1)).eval s = .slice A n' c) (hy : (a.put o1.dst (.slice (some ⟨w.heap.size, 0, none⟩) 1 1)).eval y = .slice (some ⟨w.heap.size, 0, none⟩) 1 1)
    (h63 : n' ≤ 8796093021952) (hown : w.ownsRow B 9 1 (.slice A n' c) n' (strs xs)) (hB : B ≤ w.heap.size)
    (m : Nat) (hm : n' + 1 = m) (h : ∀ A2 c2 w', w'.ownsRow B 9 1 (.slice A2 m c2) m (strs (xs ++ [t])) → w.grownBy w' (Value.slice A n' c).ownBlock → Fresh w (Value.slice A n' c).ownBlock (Value.slice A2 m c2).ownBlock → wpList Try.prog ops Q rest ((a.put o1.dst (.slice (some ⟨w.heap.size, 0, none⟩) 1 1)).put o2.dst (.slice A2 m c2)) w') :
    wpList Try.prog ops Q (o1 :: o2 :: rest) a w := by
  subst hm
  obtain ⟨i0, hi0, hz0, hz1, hz2⟩ := info_parts Try.infoTextF
  have hb1 : Below w.heap.size w (w.alloc (.cells #[.string t] 9)) := (Below.refl _ _).alloc (Nat.le_refl _) _
  refine wpList_run (o := o1) hg1 (.slice (some ⟨w.heap.size, 0, none⟩) 1 1) (w.alloc (.cells #[.string t] 9)) ?_ ?_
  · have hr : (Instr.buildSlice 50 1 #[(0, .string t)]).run Try.prog w = .ok (.slice (some ⟨w.heap.size, 0, none⟩) 1 1) (w.alloc (.cells #[.string t] 9)) := by kernel_rfl
    unfold execOp
    simp only [ho1, List.map_toArray, List.map_cons, List.map_nil, hx, Sem.run_bind, hr, Result.andThen_ok, Sem.run_pure]
  · have hH := Holds.new w 9 #[.string t]
    have hcl : ∀ j u, (strs [t])[j]? = some u → (w.alloc (.cells #[.string t] 9)).cell? ((⟨w.heap.size, 0, none⟩ : Addr).add j) = some u := fun j u hj => by
      rw [show (⟨w.heap.size, 0, none⟩ : Addr).add j = ⟨w.heap.size, j, none⟩ from by unfold Addr.add; split <;> simp_all, hH.cell]
      exact hj
    have hown1 := rown_onF hown hb1
    rw [← hz1] at hown1
    refine wpList_plain hg2 fun K hK => ?_
    obtain ⟨A2, c2, w', hr, hrow, hg, hf⟩ := run_append_fresh (P := Try.prog) (w.alloc (.cells #[.string t] 9)) B 50 o2.type 9 i0 _ Try.underlying50 hi0 hz0 (by rw [hz1]; rfl) (by rw [hz1]; decide) A n' c (strs xs) hown1 ⟨w.heap.size, 0, none⟩ 1 1 (strs [t]) (by decide) (by rw [hz1]; rfl) hcl (strs_one _) (by omega) (by rw [hz2]; omega) (Nat.le_trans hB hb1.size)
    rw [hz1] at hrow
    unfold Oper.wp execOp
    simp only [ho2, resolve, invoke, builtin, Sem.run_bind, Sem.run_pure, Result.andThen_ok, List.map_toArray, List.map_cons, List.map_nil, hs, hy, hr]
    refine hK _ _ (h A2 c2 w' (by rw [strs_append]; exact hrow) ⟨hg.os.trans hb1.os, hg.tape.trans hb1.tape, hg.output.trans hb1.output, Nat.le_trans hb1.size hg.size, fun k hk hne => (hg.block k (Nat.lt_of_lt_of_le hk hb1.size) hne).trans (hb1.block k hk)⟩ ?_)
    rcases hf with e | ⟨k, e, hk⟩
    · exact .inl e
    · exact .inr ⟨k, e, Nat.le_trans hb1.size hk⟩
end

end Go.Proofs.Ytpjfhbmegabafaa
