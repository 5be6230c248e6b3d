/- Layer 5, the program's side: what lms.nodes yields.
   Layer 5, the program's side: Public.
   Layer 5, the program's side: what lms.beside yields. -/
import Derived.Test.YtmfajekfipfjpaaGreatLmCo
import Derived.Test.YtmfajekfipfjpaaGreatRangeAll
import Derived.Test.YtmfajekfipfjpaaGreatRoundR
import Derived.Test.YtmfajekfipfjpaaGreatLmsAll
set_option maxRecDepth 100000
namespace Go.Proofs.YtmfajekfipfjpaaGreat
open Go.RowKit Go.Shelf
open Go.Lib (strCells strCells_length strCells_oneCell)
attribute [local irreducible] Sha.compress Sha.blocks Sha.sha Sha.pad
attribute [local go_sem] Oper.semAt_some

section
variable {n : Nat} {P : Program} {ops : Array Oper} {rest : List Oper} {o : Oper} {a : Act} {w : World} {Q : Exit → Act → World → Prop} {K : Act → World → Prop}
theorem oper_wide (h : o.wp P a w K Q) : o.wpIn Fence.wide n P a w K Q := by
  unfold Oper.wpIn
  unfold Oper.wp at h
  refine ⟨fun _ _ => trivial, ?_⟩
  show o.uponIn Fence.wide n P a K Q ((execOp a.eval o).run P w)
  generalize (execOp a.eval o).run P w = r at h ⊢
  cases r with
  | ok x w' =>
    cases x with
    | enter f args => exact ⟨(fun e => by cases e), callsIn_wide.2 h⟩
    | row row args => exact ⟨(fun e => by cases e), fun c cs _ => let ⟨v, w2, r, s⟩ := h c cs; ⟨v, w2, r, stepsIn_wide.2 s⟩⟩
    | round l f tmps assign body => exact h.elim
    | _ => exact h
  | halt x w' => cases x <;> exact h
theorem wpListIn_of (hg : o.guard = none) (h : ∀ K, (∀ a' w', wpListIn Fence.wide n P ops Q rest a' w' → K a' w') → o.wp P a w K Q) : wpListIn Fence.wide n P ops Q (o :: rest) a w :=
  wpListIn_plain hg fun K hK => oper_wide (h K hK)

theorem wp_build_one (t e : TypeId) (x : Operand) (ho : o.op = .buildSlice t 1 #[(0, x)]) (i : TypeInfo) (z : Value) (ht : P.underlying t = some (.slice e)) (hi : P.info? e = some i) (hz : i.zero = some z)
    (H : Array Value) (hx : a.eval x = .agg H) (hn : i.size = H.size) (h0 : 0 < H.size) (h1 : H.size ≤ 1000000) (h : K (a.put o.dst (.slice (some ⟨w.heap.size, 0, none⟩) 1 1)) (w.alloc (.cells H e))) : o.wp P a w K Q := by
  have hr := run_buildSlice_one (w := w) t e i z ht hi hz H hn h0 h1
  unfold Oper.wp execOp
  simp only [ho, List.map_toArray, List.map_cons, List.map_nil, hx, Sem.run_bind, hr, Result.andThen_ok, Sem.run_pure]
  exact h

theorem own_below {w w' : World} {n0 c k sz : Nat} {A : Option Addr} {t : TypeId} {cs : List Value} (h : w.ownsRow n0 t sz (.slice A k c) k cs) (hb : Below w.heap.size w w') : w'.ownsRow n0 t sz (.slice A k c) k cs := by
  have hlt := h.lt
  obtain ⟨h1, h2 | ⟨g, cap, cur, hv, hB, hh, rest⟩⟩ := h
  · exact ⟨h1, .inl h2⟩
  · refine ⟨h1, .inr ⟨g, cap, cur, hv, hB, ?_, rest⟩⟩
    rw [hb.block g (hlt g (by rw [hv]; rfl)).2]
    exact hh

/-- One hash put behind a row of hashes, by 'append' of a slice made for it, inside a fence. -/
theorem wpListIn_pushHash {o1 o2 : Oper} (hg1 : o1.guard = none) (hg2 : o2.guard = none) (x s y : Operand) (ho1 : o1.op = .buildSlice 72 1 #[(0, x)]) (ho2 : o2.op = .call { callee := .builtin .append, args := #[s, y], argTypes := #[72, 72] })
    (B : Nat) (A : Option Addr) (n' c : Nat) (cs C : List Value) (hC : HashCells C) (hx : a.eval x = .agg C.toArray) (hs : (a.put o1.dst (.slice (some ⟨w.heap.size, 0, none⟩) 1 1)).eval s = .slice A n' c) (hy : (a.put o1.dst (.slice (some ⟨w.heap.size, 0, none⟩) 1 1)).eval y = .slice (some ⟨w.heap.size, 0, none⟩) 1 1) (hu : ∀ u ∈ C, u.oneCell' = true)
    (h63 : n' ≤ 1000000) (hown : w.ownsRow B 60 32 (.slice A n' c) n' cs) (hB : B ≤ w.heap.size)
    (h : ∀ A2 c2 w', w'.ownsRow B 60 32 (.slice A2 (n' + 1) c2) (n' + 1) (cs ++ C) → w.grownBy w' (Value.slice A n' c).ownBlock → wpListIn Fence.wide n Tryz.prog ops Q rest ((a.put o1.dst (.slice (some ⟨w.heap.size, 0, none⟩) 1 1)).put o2.dst (.slice A2 (n' + 1) c2)) w') :
    wpListIn Fence.wide n Tryz.prog ops Q (o1 :: o2 :: rest) a w := by
  obtain ⟨i0, hi0, hz0, hz1, hz2⟩ := info_parts Tryz.infoHashD
  have hl : C.toArray.size = 32 := by rw [List.size_toArray, hC.len]
  refine wpListIn_of hg1 fun K hK => ?_
  refine wp_build_one 72 60 x ho1 i0 _ Tryz.underlying72 hi0 hz0 C.toArray hx (by rw [hz1, hl]) (by rw [hl]; decide) (by rw [hl]; decide) ?_
  refine hK _ _ ?_
  clear hK K
  have hb1 : Below w.heap.size w (w.alloc (.cells C.toArray 60)) := (Below.refl _ _).alloc (Nat.le_refl _) _
  have hown1 := own_below hown hb1
  have hH := Holds.new w 60 C.toArray
  have hat : At (w.alloc (.cells C.toArray 60)) (w.alloc (.cells C.toArray 60)).heap.size 32 (some ⟨w.heap.size, 0, none⟩) 1 C := by
    refine ⟨by rw [hC.len], .inr ⟨_, rfl, by simp, fun j hj => ?_⟩⟩
    rw [show (⟨w.heap.size, 0, none⟩ : Addr).add j = ⟨w.heap.size, j, none⟩ from by unfold Addr.add; split <;> simp_all, hH.cell]
    exact List.getElem?_eq_getElem hj
  refine wpListIn_of hg2 fun K hK => ?_
  refine wp_appends s y 72 60 ho2 B i0 _ 32 32 Tryz.underlying72 hi0 hz0 hz1 hz2 (by decide) (by decide) A n' c cs _ (some ⟨w.heap.size, 0, none⟩) 1 1 C hs hy (fun h => by cases h) hu (by omega) (by omega) hown1 hat (Nat.le_trans hB hb1.size) ?_
  intro A2 c2 w' hrow _ hg
  refine hK _ _ (h A2 c2 w' hrow ⟨hg.os.trans hb1.os, hg.tape.trans hb1.tape, hg.output.trans hb1.output, Nat.le_trans hb1.size hg.size, fun k hk hne => (hg.block k (Nat.lt_of_lt_of_le hk hb1.size) hne).trans (hb1.block k hk)⟩)
end

theorem hcat_append (xs ys : List (List UInt8)) : hashCells (xs ++ ys) = hashCells xs ++ hashCells ys := by unfold hashCells; rw [List.flatMap_append]
theorem hcat_one (x : List UInt8) : hashCells [x] = byteCells x := by unfold hashCells; rw [List.flatMap_cons, List.flatMap_nil, List.append_nil]
theorem hrow_pop {w : World} {B : Nat} {e : TypeId} {A : Option Addr} {n c : Nat} {W : List (List UInt8)} {y : List UInt8} (hW : ∀ h ∈ W, h.length = 32) (hn : W.length = n) (h : w.ownsRow B e 32 (.slice A (n + 1) c) (n + 1) (hashCells (W ++ [y]))) : w.ownsRow B e 32 (.slice A n c) n (hashCells W) := by
  have hl := hashCells_length W hW
  refine ⟨by rw [hl, hn, Nat.mul_comm], ?_⟩
  rcases h.2 with ⟨_, h0⟩ | ⟨g, cap, cur, hv, hb, hg, hnc, hcm, hcs, htake⟩
  · omega
  · injection hv with h1 _ h2
    subst h1 h2
    refine .inr ⟨g, c, cur, rfl, hb, hg, by omega, hcm, hcs, ?_⟩
    rw [hcat_append] at htake
    have e : cur.toList.take (n * 32) = (cur.toList.take ((n + 1) * 32)).take (n * 32) := by rw [List.take_take]; congr 1; omega
    rw [e, htake]
    exact List.take_left' (by rw [hl, hn, Nat.mul_comm])

/-- The last hash of a row. -/
theorem own_last {w : World} {B n c : Nat} {A : Option Addr} {Ws : List (List UInt8)} {y : List UInt8} (hW : ∀ h ∈ Ws, h.length = 32) (hn : Ws.length = n) (h : w.ownsRow B 60 32 (.slice A (n + 1) c) (n + 1) (hashCells (Ws ++ [y]))) :
    ∃ g, A = some ⟨g, 0, none⟩ ∧ B ≤ g ∧ g < w.heap.size ∧ w.rangeAt g (n * 32) (byteCells y) ∧ n + 1 ≤ c := by
  have hlt := h.lt
  have hcl := fun g => h.cells (g := g)
  obtain ⟨hl, ⟨_, h0⟩ | ⟨g, cap, cur, hv, hb, hh, hn2, rest⟩⟩ := h
  · omega
  · obtain ⟨rfl, rfl⟩ : A = some ⟨g, 0, none⟩ ∧ c = cap := by
      injection hv with h1 _ h2
      exact ⟨h1, h2⟩
    refine ⟨g, rfl, hb, (hlt g rfl).2, fun j v hj => ?_, hn2⟩
    have e : (hashCells (Ws ++ [y]))[n * 32 + j]? = some v := by
      rw [hcat_append, List.getElem?_append_right (by rw [hashCells_length Ws hW, hn]; omega), hashCells_length Ws hW, hn, Nat.mul_comm, Nat.add_sub_cancel_left]
      rw [hcat_one]
      exact hj
    have hx := hcl g rfl _ _ e
    rw [Addr.add_mid, Nat.zero_add] at hx
    exact hx

/-! The tree's nodes, in the order in which they are made. -/
theorem made_upto (h : Nat) : ∀ q p, q ≤ p → (Lms.made h q).length ≤ (Lms.made h p).length := fun q p hqp => by
  induction p with
  | zero => obtain rfl : q = 0 := by omega
            exact Nat.le_refl _
  | succ p ih =>
    rcases Nat.eq_or_lt_of_le hqp with rfl | h1
    · exact Nat.le_refl _
    · have := ih (by omega)
      rw [Lms.made, List.length_append]
      omega
theorem nodes_join (id : List UInt8) (f : Nat → List UInt8) (h r : Nat) (h1 : 1 < r) (ho : r % 2 = 1) (hr : r < 2 ^ (h + 1)) : Lms.at_ id f h (r / 2) = Lms.join id (r / 2) (Lms.at_ id f h (r - 1)) (Lms.at_ id f h r) := by
  have p : 2 ^ (h + 1) = 2 * 2 ^ h := by rw [Nat.pow_succ, Nat.mul_comm]
  have e := Lms.at_join id f h (r / 2) (by omega) (by omega)
  rw [show 2 * (r / 2) = r - 1 from by omega, show r - 1 + 1 = r from by omega] at e
  exact e

theorem HashCells.over {cs ds : List Value} (hc : HashCells cs) {W W3 : World} {g : Nat} (h : Holds W g 60 ds) (hd : ds.length = 32) (e : W.setCells g 0 cs = W3) : Holds W3 g 60 cs := by
  subst e
  have h1 := h.put 0 cs (by rw [hc.len, hd]; decide)
  rw [put_all _ _ (by rw [hc.len, hd])] at h1
  exact h1
theorem pow_half {h l r L u : Nat} (hl : l + 1 ≤ h) (hr : r + 1 = 2 * (u + 1)) (hL : L + 1 = (r + 1) * 2 ^ (h - (l + 1))) : L + 1 = (u + 1) * 2 ^ (h - l) := by
  have e : h - l = (h - (l + 1)) + 1 := by omega
  rw [hL, hr, e, Nat.pow_succ, Nat.mul_comm 2 (u + 1), Nat.mul_assoc, Nat.mul_comm 2]

/-- What holds while the nodes are made: what was yielded, the key, the row of those that wait. -/
structure NdSt (J : List Nat → World → Prop) (X : Nat → Prop) (W : World) (b : Nat) (kc : List Value) (pre : List Nat) (A : Option Addr) (n c : Nat) (cs : List Value) (W1 : World) : Prop where
  j : J pre W1
  kp : KeepX X W W1
  k : Holds W1 b 39 kc
  row : W1.ownsRow W.heap.size 60 32 (.slice A n c) n cs

section
variable {J : List Nat → World → Prop} {X : Nat → Prop} {W W1 W2 : World} {b : Nat} {kc cs : List Value} {pre : List Nat} {A : Option Addr} {n c : Nat}
theorem NdSt.below (h : NdSt J X W b kc pre A n c cs W1) (hJ : ∀ s A B row, J s A → A.grownBy B row → (∀ r, row = some r → W.heap.size ≤ r ∨ False) → J s B) (hb : Below W1.heap.size W1 W2) : NdSt J X W b kc pre A n c cs W2 :=
  ⟨hJ pre W1 W2 none h.j ⟨hb.os, hb.tape, hb.output, hb.size, fun k hk _ => hb.block k hk⟩ (fun r e => by cases e), h.kp.trans (KeepX.below hb), h.k.below hb h.k.lt, own_below h.row hb⟩
theorem NdSt.put (h : NdSt J X W b kc pre A n c cs W1) (hJ : ∀ s A B row, J s A → A.grownBy B row → (∀ r, row = some r → W.heap.size ≤ r ∨ False) → J s B) {g : Nat} {vs : List Value} (hg : W.heap.size ≤ g) (hbW : b < W.heap.size) (hne : (Value.slice A n c).ownBlock ≠ some g) (e : W1.setCells g 0 vs = W2) : NdSt J X W b kc pre A n c cs W2 := by
  have hgr : W1.grownBy W2 (some g) := by
    subst e
    have hbq := below_setCells (Below.refl g W1) g 0 vs (Nat.le_refl _)
    exact ⟨hbq.os, hbq.tape, hbq.output, hbq.size, fun k hk hne => cells_far _ _ _ _ _ (fun e => hne (by rw [e]))⟩
  refine ⟨hJ pre W1 W2 (some g) h.j hgr (fun r e => by cases e; exact .inl hg), ⟨Nat.le_trans h.kp.1 hgr.size, fun k o hk ho hx => ?_⟩, holds_far h.k (by omega) e, row_far h.row hne e⟩
  have hlt := (Array.getElem?_eq_some_iff.1 hk).1
  exact (hgr.block k (Nat.lt_of_lt_of_le hlt h.kp.1) (fun e => by have := Option.some.inj e; omega)).trans (h.kp.2 k o hk ho hx)
theorem NdSt.yielded (h : NdSt J X W b kc pre A n c cs W1) (hXb : ¬ X b) (hX : ∀ k, X k → k < W.heap.size) {r : Nat} (hj : J (pre ++ [r]) W2) (hk : KeepX X W1 W2) : NdSt J X W b kc (pre ++ [r]) A n c cs W2 :=
  ⟨hj, h.kp.trans hk, hk.holds h.k hXb, hk.row h.row fun g e hx => by
    have a1 := hX g hx
    have a2 := (h.row.lt g e).1
    omega⟩
theorem NdSt.grown (h : NdSt J X W b kc pre A n c cs W1) (hJ : ∀ s A B row, J s A → A.grownBy B row → (∀ r, row = some r → W.heap.size ≤ r ∨ False) → J s B) (hbW : b < W.heap.size) (hg : W1.grownBy W2 (Value.slice A n c).ownBlock) {A2 : Option Addr} {n2 c2 : Nat} {cs2 : List Value} (hr : W2.ownsRow W.heap.size 60 32 (.slice A2 n2 c2) n2 cs2) : NdSt J X W b kc pre A2 n2 c2 cs2 W2 := by
  have hlo : ∀ r, (Value.slice A n c).ownBlock = some r → W.heap.size ≤ r := fun r e => (h.row.lt r e).1
  refine ⟨hJ pre W1 W2 _ h.j hg (fun r e => .inl (hlo r e)), ⟨Nat.le_trans h.kp.1 hg.size, fun k o hk ho hx => ?_⟩, h.k.grown hg (fun e => by have := hlo b e.symm; omega), hr⟩
  have hlt := (Array.getElem?_eq_some_iff.1 hk).1
  exact (hg.block k (Nat.lt_of_lt_of_le hlt h.kp.1) (fun e => by have := hlo k e.symm; omega)).trans (h.kp.2 k o hk ho hx)
end

set_option maxHeartbeats 1000000 in
theorem nodes_all (m : Nat) (X : Nat → Prop) (b : Nat) (hXb : ¬ X b) (o : Ots.Par) (kd : Int) (hpar : Ots.par kd = some o) (h : Nat) (h1 : 1 ≤ h) (h5 : h ≤ 5) (id seed : ByteArray) (hi16 : id.size = 16) (hs32 : seed.size = 32) (nx : Int)
    (w : World) (hX : ∀ k, X k → k < w.heap.size) (hk : Holds w b 39 (keyC kd (h : Int) id seed nx)) :
    SeqAll Fence.wide (m + 1) Tryz.prog 51 #[.pointer (some ⟨b, 0, none⟩)] (fun r : Nat => #[.int .i64 (r : Int), hv (Lms.at_ id.data.toList (Lms.keys o id.data.toList seed.data.toList h) h r)]) (fun _ => False) (KeepX X) (fun xs => xs = Lms.made h (2 ^ h)) (Lms.made h (2 ^ h)).length w := fun l J W hW hJ hY h0 => by
  obtain ⟨nd, hnd⟩ : ∃ nd, (fun r => Lms.at_ id.data.toList (Lms.keys o id.data.toList seed.data.toList h) h r) = nd := ⟨_, rfl⟩
  have hnl : ∀ r, (nd r).length = 32 := fun r => by rw [← hnd]; exact Lms.at_len _ _ _ _
  have hC := hid (fun r => hash_cells (nd r) (hnl r))
  have hpw : 2 ^ (h + 1) = 2 * 2 ^ h := by rw [Nat.pow_succ, Nat.mul_comm]
  have hp5 : 2 ^ h ≤ 32 := by
    have := Nat.pow_le_pow_right (show 0 < 2 by decide) h5
    omega
  obtain ⟨M, hM⟩ : ∃ M, 2 ^ h = M := ⟨_, rfl⟩
  have hMi := shl_wrap h h5
  rw [hM] at hMi
  have hM32 : M ≤ 32 := by rw [← hM]; exact hp5
  clear hp5
  -- the leaf of place q
  have hpb := hid (fun (q : Nat) (hq : q < M) (W : World) => show Calls Tryz.prog 52 #[.int .i64 kd, .string id, .int .i64 (q : Int), .string seed] W fun e w' => e = .returned (.tuple #[.agg (byteCells (Ots.pub o (Ots.head id.data.toList q) seed.data.toList)).toArray, .int .i64 0]) ∧ Below W.heap.size W w' from by
    have hg : otsGood kd (q : Int) id seed = some o := by
      unfold otsGood
      rw [hpar]
      exact if_pos ⟨by unfold Ots.may; rw [decide_eq_true ⟨hi16, by omega, by omega⟩], hs32⟩
    exact Public_good kd (q : Int) id seed o hg W)
  have hpl := hid (fun (q : Nat) => hash_cells (Ots.pub o (Ots.head id.data.toList q) seed.data.toList) (Lms.pub_len _ _ _))
  have hlf := hid (fun (q : Nat) (hq : q < M) (W : World) => show Calls Tryz.prog 44 #[.string id, .int .i64 ((M + q : Nat) : Int), .agg (byteCells (Ots.pub o (Ots.head id.data.toList q) seed.data.toList)).toArray] W fun e w' => e = .returned (.agg (byteCells (nd (M + q))).toArray) ∧ Below W.heap.size W w' from by
    have hc := wayLeaf_any id (M + q) (Ots.pub o (Ots.head id.data.toList q) seed.data.toList) W (by omega) (Lms.pub_len _ _ _)
    rw [← hnd]
    dsimp only
    rw [Lms.at_leaf _ _ h (M + q) (by omega) (by omega)]
    rw [show Lms.keys o id.data.toList seed.data.toList h (M + q) = Ots.pub o (Ots.head id.data.toList q) seed.data.toList from by unfold Lms.keys; rw [hM, Nat.add_sub_cancel_left]]
    exact hc)
  have hjn := hid (fun (r : Nat) (hr1 : 1 < r) (ho : r % 2 = 1) (hr : r < 2 * M) (W : World) => show Calls Tryz.prog 53 #[.string id, .int .i64 ((r / 2 : Nat) : Int), .agg (byteCells (nd (r - 1))).toArray, .agg (byteCells (nd r)).toArray] W fun e w' => e = .returned (.agg (byteCells (nd (r / 2))).toArray) ∧ Below W.heap.size W w' from by
    have hc := wayJoin_any id (r / 2) (nd (r - 1)) (nd r) W (by omega) (hnl _) (hnl _)
    have e := nodes_join id.data.toList (Lms.keys o id.data.toList seed.data.toList h) h r hr1 ho (by omega)
    rw [← hnd] at hc ⊢
    dsimp only at hc ⊢
    rw [e]
    exact hc)
  have hY' : ∀ (pre : List Nat) (r : Nat) W1, J pre W1 → pre.length < (Lms.made h M).length → YieldAt Fence.wide m Tryz.prog l #[.int .i64 (r : Int), .agg (byteCells (nd r)).toArray] W1 fun e W' => e = .returned (.bool true) ∧ J (pre ++ [r]) W' ∧ KeepX X W1 W' := by
    intro pre r W1 hj hl
    rw [← hM] at hl
    have := hY pre r W1 hj hl
    rw [← hnd]
    exact this
  have hYy := hid hY'
  have hJj := hid hJ
  have hkW := hid (hk.below hW hk.lt)
  have hXw := hid (fun k hx => Nat.lt_of_lt_of_le (hX k hx) hW.size)
  have hnl' := hid hnl
  have hM' := hid hM
  have hpw' := hid hpw
  rw [hM]
  clear hnd hnl hY hY' hJ hk hX hM hpw
  refine callsIn_of_wp Tryz.func51 rfl trivial ?_ rfl
  simp only [Tryz.ntmps51, List.size_toArray, List.length_cons, List.length_nil, Nat.reduceAdd, Nat.reduceSub, Array.replicate_succ, Array.replicate_zero, List.push_toArray, List.append_toArray, List.nil_append, List.cons_append]
  have c1 := hkW.out.c 1 _ rfl
  obtain ⟨kc, hkc⟩ : ∃ kc, keyC kd (h : Int) id seed nx = kc := ⟨_, rfl⟩
  have g0 : kc[0]? = some (.int .i64 kd) := by rw [← hkc]; rfl
  have g1 : kc[1]? = some (.int .i64 (h : Int)) := by rw [← hkc]; rfl
  have g2 : kc[2]? = some (.string id) := by rw [← hkc]; rfl
  have g3 : kc[3]? = some (.string seed) := by rw [← hkc]; rfl
  rw [hkc] at hkW
  have gg := hid (And.intro g0 (And.intro g1 (And.intro g2 g3)))
  clear g0 g1 g2 g3 hkc
  have hbW := hkW.out.lt
  gi_wp2_with fail
  gi_loopw [3, 13] (fun s i wr => ∃ (k : Nat) (A : Option Addr) (c : Nat) (zs : List Nat), k ≤ M ∧ i = .int .i64 (k : Int) ∧ s = .slice A zs.length c ∧ NdSt J X W b kc (Lms.made h k) A zs.length c (hashCells (zs.map nd)) wr ∧ zs.length ≤ 1000 ∧ (k < M → zs = Lms.wait h (M + k))) (fun _ i _ => M - (intOf i).toNat)
  case atStart => exact ⟨0, none, 0, [], Nat.zero_le _, rfl, rfl, ⟨h0, KeepX.refl _ _, hkW.out, World.ownsRow_nil _ _ _ _⟩, by decide, fun _ => by rw [Nat.add_zero, ← hM'.out]; exact (Lms.wait_start h).symm⟩
  case round =>
    obtain ⟨k, A, c, zs, hkM, rfl, rfl, hst, hz, hzs⟩ := hrel
    have hS0 := hid hst
    clear hst
    by_cases hlt : k < M
    · have hzs' := hid (hzs hlt)
      clear hzs
      have hki : (k : Int) < (M : Int) := by omega
      have u1 := IntWalk.i64_in ((M : Int) + (k : Int)) (by omega)
      have u2 := IntWalk.i64_in ((k : Int) + 1) (by omega)
      have hsum : (M : Int) + (k : Int) = ((M + k : Nat) : Int) := by omega
      have c0 := hS0.out.k.c 0 _ gg.out.1
      have c1 := hS0.out.k.c 1 _ gg.out.2.1
      have c2 := hS0.out.k.c 2 _ gg.out.2.2.1
      have c3 := hS0.out.k.c 3 _ gg.out.2.2.2
      gi_wp2_with fail
      refine ⟨trivial, (callsIn_wide.2 (hpb.out k hlt _)).mono ?_⟩
      rintro e W1 ⟨rfl, hb⟩
      have hS1 := hid (hS0.out.below hJj.out hb)
      have hWs := hS0.out.kp.1
      have hs01 := hb.size
      clear hb c0 c1 c2 c3
      have d1 := hS1.out.k.c 1 _ gg.out.2.1
      obtain ⟨P, hP⟩ : ∃ P, byteCells (Ots.pub o (Ots.head id.data.toList k) seed.data.toList) = P := ⟨_, rfl⟩
      have hCP := hid (hpl.out k)
      have hLf := hid (fun W => hlf.out k hlt W)
      rw [hP] at hCP hLf ⊢
      clear hP
      obtain ⟨L, hL⟩ : ∃ L, M + k = L := ⟨_, rfl⟩
      rw [hL] at hsum hLf
      have hL' := hid hL
      clear hL
      gi_wp2_with (first
        | ((with_reducible refine at_slotIn (some 5) ?_); refine wpListIn_run rfl (fun c e => by cases e) (by kernel_rfl) (.pointer (some ⟨W1.heap.size, 0, none⟩)) (W1.alloc (.cells z32 60)) (by kernel_rfl) ?_)
        | ((with_reducible refine at_slotIn none ?_); refine wpListIn_store_mid rfl 60 (.tmp 5) (.tmp 25) rfl W1.heap.size 0 P.toArray rfl rfl (by exact hCP.out.there W1) (by exact hCP.out.size) (by exact hCP.out.one) ?_; generalize hW2 : World.setCells _ _ _ _ = W2; obtain ⟨hN, hb⟩ := hCP.out.new hW2; have hS2 := hid (hS1.out.below hJj.out hb); have hO2 := hid hN; have e1 := hS2.out.k.c 1 _ gg.out.2.1; have e2 := hS2.out.k.c 2 _ gg.out.2.2.1; have hs12 := hb.size; clear hW2 hN hb)
        | ((with_reducible refine at_slotIn (some 35) ?_); refine wpListIn_load_mid rfl 60 (.tmp 5) rfl W1.heap.size 0 rfl P _ (by exact h_all hO2.out) Tryz.underlying60 rfl (by exact hCP.out.size') ?_)
        | fail)
      refine ⟨trivial, (callsIn_wide.2 (hLf.out _)).mono ?_⟩
      rintro e W3 ⟨rfl, hb⟩
      have hS3 := hid (hS2.out.below hJj.out hb)
      have hs23 := hb.size
      clear hb e1 e2 d1 hO2
      have hCL := hid (hC.out L)
      obtain ⟨q8, hq8⟩ : ∃ q8, W3.heap.size = q8 := ⟨_, rfl⟩
      gi_wp2_with (first
        | ((with_reducible refine at_slotIn (some 8) ?_); refine wpListIn_run rfl (fun c e => by cases e) (by kernel_rfl) (.pointer (some ⟨W3.heap.size, 0, none⟩)) (W3.alloc (.cells z32 60)) (by kernel_rfl) ?_)
        | ((with_reducible refine at_slotIn none ?_); refine wpListIn_store_mid rfl 60 (.tmp 8) (.tmp 36) rfl W3.heap.size 0 (byteCells (nd L)).toArray rfl rfl (by exact hCL.out.there W3) (by exact hCL.out.size) (by exact hCL.out.one) ?_; generalize hW4 : World.setCells _ _ _ _ = W4; obtain ⟨hN, hb⟩ := hCL.out.new hW4; have hS4 := hid (hS3.out.below hJj.out hb); have hO4 := hid hN; have hs34 := hb.size; clear hW4 hN hb)
        | fail)
      rw [hq8] at hO4 ⊢
      have hq8W : W.heap.size ≤ q8 := by omega
      have hne8 : (Value.slice A zs.length c).ownBlock ≠ some q8 := fun e => by have := (hS0.out.row.lt q8 e).2; omega
      have hLM : L < 2 * M := by have := hL'.out; omega
      go_frame
      gi_loopw [3, 7] (fun s rv wr => ∃ (l r : Nat) (A : Option Addr) (c : Nat) (pre ws : List Nat), rv = .int .i64 (r : Int) ∧ ws = Lms.wait l r ∧ s = .slice A ws.length c ∧ NdSt J X W b kc pre A ws.length c (hashCells (ws.map nd)) wr ∧ Holds wr q8 60 (byteCells (nd r)) ∧ (Value.slice A ws.length c).ownBlock ≠ some q8 ∧ l ≤ h ∧ 2 ^ l ≤ r ∧ r < 2 ^ (l + 1) ∧ L + 1 = (r + 1) * 2 ^ (h - l) ∧ pre ++ Lms.chain l r = Lms.made h k ++ Lms.chain h L) (fun _ rv _ => (intOf rv).toNat)
      case atStart => exact ⟨h, L, A, c, Lms.made h k, zs, rfl, by rw [hzs'.out, hL'.out], rfl, hS4.out, hO4.out, hne8, Nat.le_refl _, by have := hM'.out; have := hL'.out; omega, by have := hM'.out; have := hpw'.out; omega, by rw [Nat.sub_self, Nat.pow_zero, Nat.mul_one], rfl⟩
      case round =>
        obtain ⟨l, r, A, c, pre, ws, rfl, hws, rfl, hst, ho, hne, hlh, hr1, hr2, hLr, hpc⟩ := hrel
        have hT0 := hid hst
        have hO := hid ho
        have hcl := hid (hC.out r)
        have hr2M : r < 2 * M := by
          have := Nat.pow_le_pow_right (show 0 < 2 by decide) (show l + 1 ≤ h + 1 by omega)
          have := hpw'.out
          have := hM'.out
          omega
        have hplt : pre.length < (Lms.made h M).length := by
          have e := congrArg List.length hpc
          have e2 : (Lms.made h k ++ Lms.chain h L).length = (Lms.made h (k + 1)).length := by rw [Lms.made, hM'.out, hL'.out]
          have e3 := made_upto h (k + 1) M hlt
          have e4 : 0 < (Lms.chain l r).length := by cases l <;> simp [Lms.chain]
          rw [e2, List.length_append] at e
          omega
        obtain ⟨fn1, tmps1, assign1, body1, hy1, hR1⟩ := hYy.out pre r wr hst.j hplt
        have hpc' := hid hpc
        have hLr' := hid hLr
        clear hst ho hpc hLr
        by_cases h1r : 1 < r
        · have hri : (1 : Int) < (r : Int) := by omega
          by_cases hod : r % 2 = 1
          · have hmod : (r : Int).tmod 2 = 1 := by rw [Int.tmod_eq_emod_of_nonneg (by omega)]; omega
            obtain ⟨l2, rfl⟩ : ∃ l2, l = l2 + 1 := by
              cases l with
              | zero => simp at hr2; omega
              | succ l2 => exact ⟨l2, rfl⟩
            have hJn := hid (hjn.out r h1r hod hr2M)
            have hw2 := Lms.wait_odd l2 r hod
            have hch := hid (Lms.chain_odd l2 r hod)
            have hpk : 2 ^ (l2 + 1) = 2 * 2 ^ l2 := by rw [Nat.pow_succ, Nat.mul_comm]
            have hpk2 : 2 ^ (l2 + 1 + 1) = 2 * 2 ^ (l2 + 1) := by rw [Nat.pow_succ 2 (l2 + 1), Nat.mul_comm]
            obtain ⟨u, hu⟩ : ∃ u, r / 2 = u := ⟨_, rfl⟩
            obtain ⟨v, hv'⟩ : ∃ v, r - 1 = v := ⟨_, rfl⟩
            rw [hu, hv'] at hJn hw2
            rw [hu] at hch
            have hhalf := hid (pow_half (u := u) hlh (by omega) hLr'.out)
            have hb1 : 2 ^ l2 ≤ u := by omega
            have hb2 : u < 2 ^ (l2 + 1) := by omega
            have htd : (r : Int).tdiv 2 = (u : Int) := by rw [Int.tdiv_eq_ediv_of_nonneg (by omega)]; omega
            have hqw := IntWalk.i64_in (u : Int) (by omega)
            clear hu hv' hpk hpk2
            have hws2 := hws.trans hw2
            obtain ⟨ys, hys⟩ : ∃ ys, Lms.wait l2 u = ys := ⟨_, rfl⟩
            have hyl : ys.length ≤ l2 := by rw [← hys]; exact Lms.wait_len _ _
            rw [hys] at hws2
            have hys' := hid hys
            clear hws hw2 hys
            subst hws2
            rw [List.length_append, List.length_singleton] at hT0 hne ⊢
            rw [List.map_append, List.map_cons, List.map_nil] at hT0
            obtain ⟨nn, hnn⟩ : ∃ nn, ys.length = nn := ⟨_, rfl⟩
            rw [hnn] at hT0 hne hyl ⊢
            have hyn : ∀ x ∈ ys.map nd, x.length = 32 := fun x hx => by
              obtain ⟨q, -, rfl⟩ := List.mem_map.1 hx
              exact hnl'.out q
            have hyn' := hid hyn
            have hynl := hid (show (ys.map nd).length = nn from by rw [List.length_map, hnn])
            have hnn' := hid hnn
            obtain ⟨g, rfl, -, -, -, hcc⟩ := own_last hyn hynl.out hT0.out.row
            clear hyn hnn
            have u3 := IntWalk.i64_in (nn : Int) (by omega)
            have u4 : (0 : Int) ≤ (nn : Int) := by omega
            have u5 : (nn : Int) < (nn : Int) + 1 := by omega
            have u6 : (nn : Int) ≤ (c : Int) := by omega
            gi_wp2_with (first
              | ((with_reducible refine at_slotIn (some 46) ?_); refine wpListIn_load_mid rfl 60 (.tmp 8) rfl q8 0 rfl (byteCells (nd r)) _ (by exact h_all hO.out) Tryz.underlying60 rfl (by exact hcl.out.size') ?_)
              | fail)
            refine hR1.mono ?_
            rintro e W5 ⟨rfl, hJ5, hK5⟩
            have hT5 := hid (hT0.out.yielded hXb hXw.out hJ5 hK5)
            have hO5 := hid (hK5.holds hO.out (fun hx => by have := hXw.out _ hx; omega))
            clear hJ5 hK5 hR1 hy1
            obtain ⟨g', hg', hgB, hglt, hrg, -⟩ := own_last hyn'.out hynl.out hT5.out.row
            obtain rfl : g = g' := by cases hg'; rfl
            have hrg' := hid hrg
            have hCv := hid (hC.out v)
            have hO5' := hO5.out.lt
            have f2 := hT5.out.k.c 2 _ gg.out.2.2.1
            have hu2 := hid (hC.out u)
            clear hrg hg'
            gi_wp2_with (first
              | ((with_reducible refine at_slotIn (some 54) ?_); refine wpListIn_load_mid rfl 60 (.tmp 53) rfl g (nn * 32) rfl (byteCells (nd v)) _ (by exact hrg'.out) Tryz.underlying60 rfl (by exact hCv.out.size') ?_)
              | ((with_reducible refine at_slotIn (some 9) ?_); refine wpListIn_run rfl (fun c e => by cases e) (by kernel_rfl) (.pointer (some ⟨W5.heap.size, 0, none⟩)) (W5.alloc (.cells z32 60)) (by kernel_rfl) ?_)
              | ((with_reducible refine at_slotIn none ?_); refine wpListIn_store_mid rfl 60 (.tmp 9) (.tmp 54) rfl W5.heap.size 0 (byteCells (nd v)).toArray rfl rfl (by exact hCv.out.there W5) (by exact hCv.out.size) (by exact hCv.out.one) ?_; generalize hW6 : World.setCells _ _ _ _ = W6; obtain ⟨hN, hb⟩ := hCv.out.new hW6; have hT6 := hid (hT5.out.below hJj.out hb); have hO6 := zon hb hO5; have hV6 := hid hN; have k2 := hT6.out.k.c 2 _ gg.out.2.2.1; have hs56 := hb.size; clear hW6 hN hb)
              | ((with_reducible refine at_slotIn (some 65) ?_); refine wpListIn_load_mid rfl 60 (.tmp 9) rfl W5.heap.size 0 rfl (byteCells (nd v)) _ (by exact h_all hV6.out) Tryz.underlying60 rfl (by exact hCv.out.size') ?_)
              | ((with_reducible refine at_slotIn (some 66) ?_); refine wpListIn_load_mid rfl 60 (.tmp 8) rfl q8 0 rfl (byteCells (nd r)) _ (by exact h_all hO6.out) Tryz.underlying60 rfl (by exact hcl.out.size') ?_)
              | fail)
            refine ⟨trivial, (callsIn_wide.2 (hJn.out _)).mono ?_⟩
            rintro e W7 ⟨rfl, hb⟩
            have hT7 := hid (hT6.out.below hJj.out hb)
            have hO7 := zon hb hO6
            clear hb k2 f2
            gi_wp2_with (first
              | ((with_reducible refine at_slotIn none ?_); refine wpListIn_store_mid rfl 60 (.tmp 8) (.tmp 67) rfl q8 0 (byteCells (nd u)).toArray rfl rfl (by exact hu2.out.there' hO7.out hcl.out.len) (by exact hu2.out.size) (by exact hu2.out.one) ?_; generalize hW8 : World.setCells _ _ _ _ = W8; have hT8 := hid (hT7.out.put hJj.out hq8W hbW hne hW8); have hO8 := hid (hu2.out.over hO7.out hcl.out.len hW8); clear hW8)
              | fail)
            go_frame
            go_roundw
            case rel => exact ⟨l2, u, some ⟨g, 0, none⟩, c, pre ++ [r], ys, by go_num, hys'.out.symm, by rw [hnn'.out], by rw [hnn'.out]; exact ⟨hT8.out.j, hT8.out.kp, hT8.out.k, hrow_pop hyn'.out hynl.out hT8.out.row⟩, hO8.out, hne, by omega, hb1, hb2, hhalf.out, by rw [List.append_assoc, ← hpc'.out, hch.out]; rfl⟩
            case measure => simp [intOf]; omega
          · have hmod : (r : Int).tmod 2 = 0 := by rw [Int.tmod_eq_emod_of_nonneg (by omega)]; omega
            have hl1 : 1 ≤ l := by
              cases l with
              | zero => simp at hr2; omega
              | succ l2 => omega
            have hch := hid (show Lms.chain l r = [r] from by
              obtain ⟨l2, rfl⟩ : ∃ l2, l = l2 + 1 := ⟨l - 1, by omega⟩
              exact Lms.chain_low l2 r (by omega))
            have hnxt := hid (fun (_ : k + 1 < M) => show ws ++ [r] = Lms.wait h (M + (k + 1)) from by
              rw [hws, show M + (k + 1) = L + 1 from by have := hL'.out; omega]
              exact (Lms.wait_next h l r L hlh hl1 (by omega) hLr'.out).symm)
            have hwl : ws.length ≤ 5 := by
              have := Lms.wait_len l r
              rw [← hws] at this
              omega
            have hwl' := hid hwl
            clear hws
            gi_wp2_with (first
              | ((with_reducible refine at_slotIn (some 70) ?_); refine wpListIn_load_mid rfl 60 (.tmp 8) rfl q8 0 rfl (byteCells (nd r)) _ (by exact h_all hO.out) Tryz.underlying60 rfl (by exact hcl.out.size') ?_)
              | fail)
            refine hR1.mono ?_
            rintro e W5 ⟨rfl, hJ5, hK5⟩
            have hT5 := hid (hT0.out.yielded hXb hXw.out hJ5 hK5)
            have hO5 := hid (hK5.holds hO.out (fun hx => by have := hXw.out _ hx; omega))
            clear hJ5 hK5 hR1 hy1
            have h1c := byteCells_one (nd r)
            gi_wp2_with (first
              | ((with_reducible refine at_slotIn (some 74) ?_); refine wpListIn_load_mid rfl 60 (.tmp 8) rfl q8 0 rfl (byteCells (nd r)) _ (by exact h_all hO5.out) Tryz.underlying60 rfl (by exact hcl.out.size') ?_)
              | ((with_reducible refine at_slotIn (some 75) ?_); refine wpListIn_pushHash rfl rfl (.tmp 74) (.tmp 73) (.tmp 75) rfl rfl W.heap.size A ws.length c _ _ hcl.out rfl rfl rfl h1c (by have := hwl'.out; omega) hT5.out.row hT5.out.kp.1 ?_; intro A2 c2 W6 hrow6 hg6; have hT6 := hid (hT5.out.grown hJj.out hbW hg6 hrow6); clear hrow6 hg6)
              | fail)
            go_roundw
            case rel => exact ⟨k + 1, A2, c2, ws ++ [r], by omega, by go_num, by rw [List.length_append, List.length_singleton], by
              have e : Lms.made h (k + 1) = pre ++ [r] := by rw [Lms.made, hM'.out, hL'.out, ← hpc'.out, hch.out]
              rw [e, List.length_append, List.length_singleton, List.map_append, List.map_cons, List.map_nil, hcat_append, hcat_one]
              exact hT6.out, by rw [List.length_append, List.length_singleton]; omega, hnxt.out⟩
            case measure => simp [intOf]; omega
        · have hri : ¬ (1 : Int) < (r : Int) := by omega
          have hl0 : l = 0 := by
            cases l with
            | zero => rfl
            | succ l2 =>
              have : 2 ^ 1 ≤ 2 ^ (l2 + 1) := Nat.pow_le_pow_right (by decide) (by omega)
              omega
          have hr1' : r = 1 := by
            have := Nat.pow_pos (n := l) (show 0 < 2 by decide)
            omega
          have hch := hid (show Lms.chain l r = [r] from by rw [hl0]; rfl)
          have hnxt := hid (fun (hk1 : k + 1 < M) => show ws ++ [r] = Lms.wait h (M + (k + 1)) from by
            exfalso
            have e := hLr'.out
            rw [hl0, hr1', Nat.sub_zero, hM'.out] at e
            have := hL'.out
            omega)
          clear hl0 hr1'
          have hwl : ws.length ≤ 5 := by
            have := Lms.wait_len l r
            rw [← hws] at this
            omega
          have hwl' := hid hwl
          clear hws
          gi_wp2_with (first
            | ((with_reducible refine at_slotIn (some 70) ?_); refine wpListIn_load_mid rfl 60 (.tmp 8) rfl q8 0 rfl (byteCells (nd r)) _ (by exact h_all hO.out) Tryz.underlying60 rfl (by exact hcl.out.size') ?_)
            | fail)
          refine hR1.mono ?_
          rintro e W5 ⟨rfl, hJ5, hK5⟩
          have hT5 := hid (hT0.out.yielded hXb hXw.out hJ5 hK5)
          have hO5 := hid (hK5.holds hO.out (fun hx => by have := hXw.out _ hx; omega))
          clear hJ5 hK5 hR1 hy1
          have h1c := byteCells_one (nd r)
          gi_wp2_with (first
            | ((with_reducible refine at_slotIn (some 74) ?_); refine wpListIn_load_mid rfl 60 (.tmp 8) rfl q8 0 rfl (byteCells (nd r)) _ (by exact h_all hO5.out) Tryz.underlying60 rfl (by exact hcl.out.size') ?_)
            | ((with_reducible refine at_slotIn (some 75) ?_); refine wpListIn_pushHash rfl rfl (.tmp 74) (.tmp 73) (.tmp 75) rfl rfl W.heap.size A ws.length c _ _ hcl.out rfl rfl rfl h1c (by have := hwl'.out; omega) hT5.out.row hT5.out.kp.1 ?_; intro A2 c2 W6 hrow6 hg6; have hT6 := hid (hT5.out.grown hJj.out hbW hg6 hrow6); clear hrow6 hg6)
            | fail)
          go_roundw
          case rel => exact ⟨k + 1, A2, c2, ws ++ [r], by omega, by go_num, by rw [List.length_append, List.length_singleton], by
            have e : Lms.made h (k + 1) = pre ++ [r] := by rw [Lms.made, hM'.out, hL'.out, ← hpc'.out, hch.out]
            rw [e, List.length_append, List.length_singleton, List.map_append, List.map_cons, List.map_nil, hcat_append, hcat_one]
            exact hT6.out, by rw [List.length_append, List.length_singleton]; omega, hnxt.out⟩
          case measure => simp [intOf]; omega
    · obtain rfl : k = M := by omega
      have hki : ¬ (k : Int) < (k : Int) := by omega
      have hjf := hid hS0.out.j
      gi_wp2
      go_end0
      exact ⟨⟨_, rfl⟩, hjf.out⟩

end Go.Proofs.YtmfajekfipfjpaaGreat
namespace Go.Proofs.YtmfajekfipfjpaaGreat
open Go.RowKit Go.Shelf
open Go.Lib (strCells strCells_length strCells_oneCell)
attribute [local irreducible] Sha.compress Sha.blocks Sha.sha Sha.pad
attribute [local go_sem] Oper.semAt_some

theorem blk_on {w w' : World} {D : Nat} {o : Obj} (h : w.heap[D]? = some o) (hb : Below w.heap.size w w') : w'.heap[D]? = some o := (hb.block D (Array.getElem?_eq_some_iff.1 h).1).trans h
theorem results_tt {P : Program} {fn : Func} {p q : Tmp} (h : fn.results = #[.tmp p, .tmp q]) (tmps : Array Value) (w : World) (x y : Value)
    (hp : tmps.getD p undef = x) (hq : tmps.getD q undef = y) : (results fn tmps).run P w = .ok (.tuple #[x, y]) w := by
  have hp' : tmps[p]?.getD undef = x := by simpa using hp
  have hq' : tmps[q]?.getD undef = y := by simpa using hq
  simp [results, h, hp', hq']

theorem grown_set {W W' : World} {g : Nat} {vs : List Value} (e : W.setCells g 0 vs = W') : W.grownBy W' (some g) := by
  subst e
  have hbq := below_setCells (Below.refl g W) g 0 vs (Nat.le_refl _)
  exact ⟨hbq.os, hbq.tape, hbq.output, hbq.size, fun k hk hne => cells_far _ _ _ _ _ (fun e => hne (by rw [e]))⟩
theorem nodes_any (o ht : Int) (id seed : ByteArray) (nx : Int) (w : World) : Calls Tryz.prog 30 #[.agg #[.int .i64 o, .int .i64 ht, .string id, .string seed, .int .i64 nx]] w fun e w' => e = .returned (.func (.func 51) #[] #[.pointer (some ⟨w.heap.size, 0, none⟩)]) ∧ w' = w.alloc (.cells (keyC o ht id seed nx).toArray 39) := by
  go_enter Tryz.func30, Tryz.ntmps30
  go_wp2_with (first
    | ((with_reducible refine at_slot (some 1) ?_); refine wpList_run rfl (.pointer (some ⟨w.heap.size, 0, none⟩)) (w.alloc (.cells (keyC o ht id seed nx).toArray 39)) (by kernel_rfl) ?_)
    | fail)
  go_ret
  exact ⟨rfl, rfl⟩

theorem sizeKey : (Tryz.prog.info? 39).map (·.size) = some 5 := by kernel_rfl
noncomputable def puPart (n : Nat) : Code := partSeq n ((Tryz.f13.body).getD .skip)
noncomputable def puTail : Code := dropSeq 3 ((Tryz.f13.body).getD .skip)
theorem pu_body : Tryz.f13.body = some (.seq (puPart 0) (.seq (puPart 1) (.seq (puPart 2) puTail))) := by kernel_rfl

/-- A public key as a text. -/
def pubT (o : Ots.Par) (kd h : Nat) (id seed : ByteArray) : ByteArray := txt (Lms.pubL o kd h id.data.toList seed.data.toList)
theorem pubT_eq (o : Ots.Par) (kd h : Nat) (id seed : ByteArray) (x : List UInt8) (hx : Lms.at_ id.data.toList (Lms.keys o id.data.toList seed.data.toList h) h 1 = x) : be 4 (Lms.typ h) ++ be 4 kd ++ id ++ txt x = pubT o kd h id seed := by
  apply bytes_ext
  unfold pubT Lms.pubL
  rw [data_append, data_append, data_append, txt_list, txt_list, ← hx, Lms.at_root]
  rfl
theorem one_chain : ∀ l, 1 ∈ Lms.chain l (2 ^ (l + 1) - 1)
  | 0 => List.mem_singleton.2 rfl
  | l + 1 => by
    have p : 2 ^ (l + 1 + 1) = 2 * 2 ^ (l + 1) := by rw [Nat.pow_succ 2 (l + 1), Nat.mul_comm]
    have p0 := Nat.pow_pos (n := l + 1) (show 0 < 2 by decide)
    rw [Lms.chain_odd l _ (by omega), show (2 ^ (l + 1 + 1) - 1) / 2 = 2 ^ (l + 1) - 1 from by omega]
    exact List.mem_cons_of_mem _ (one_chain l)
theorem one_made (h : Nat) : 1 ∈ Lms.made h (2 ^ h) := by
  have p : 2 ^ (h + 1) = 2 * 2 ^ h := by rw [Nat.pow_succ, Nat.mul_comm]
  have p0 := Nat.pow_pos (n := h) (show 0 < 2 by decide)
  have e : Lms.made h (2 ^ h) = Lms.made h (2 ^ h - 1) ++ Lms.chain h (2 ^ (h + 1) - 1) := by
    obtain ⟨q, hq⟩ : ∃ q, 2 ^ h = q + 1 := ⟨2 ^ h - 1, by omega⟩
    rw [hq, Lms.made, Nat.add_sub_cancel, hq]
    congr 1
    congr 1
    omega
  rw [e, List.mem_append]
  exact .inr (one_chain h)

set_option maxHeartbeats 2000000 in
theorem lmsPublic_good (p : Ots.Par) (kd h : Nat) (hpar : Ots.par (kd : Int) = some p) (h1 : 1 ≤ h) (h5 : h ≤ 5) (id seed : ByteArray) (hi16 : id.size = 16) (hs32 : seed.size = 32) (nx : Int) (hok : keyOk (kd : Int) (h : Int) id seed nx = true) (w : World) : Calls Tryz.prog 13 #[.agg #[.int .i64 (kd : Int), .int .i64 (h : Int), .string id, .string seed, .int .i64 nx]] w fun e w' => e = .returned (.tuple #[.string (pubT p kd h id seed), .int .i64 0]) ∧ Below w.heap.size w w' := by
  obtain ⟨W0, hW0⟩ : ∃ W0, w.alloc (.cells (keyC (kd : Int) (h : Int) id seed nx).toArray 39) = W0 := ⟨_, rfl⟩
  have hK0 := hid (show Holds W0 w.heap.size 39 (keyC (kd : Int) (h : Int) id seed nx) from by rw [← hW0]; exact Holds.new _ _ _)
  have hB0 := hid (show Below w.heap.size w W0 from by rw [← hW0]; exact (Below.refl _ _).alloc (Nat.le_refl _) _)
  have hW0' := hid hW0
  have hsk := hid sizeKey
  have hmy := hid (fun W => lmsMay_any (kd : Int) (h : Int) id seed nx W)
  rw [hok] at hmy
  clear hW0 hok
  obtain ⟨nd, hnd⟩ : ∃ nd, (fun r => Lms.at_ id.data.toList (Lms.keys p id.data.toList seed.data.toList h) h r) = nd := ⟨_, rfl⟩
  have hnl : ∀ r, (nd r).length = 32 := fun r => by rw [← hnd]; exact Lms.at_len _ _ _ _
  have hC := hid (fun r => hash_cells (nd r) (hnl r))
  have hans := hid (pubT_eq p kd h id seed (nd 1) (by rw [← hnd]))
  have hnd' := hid hnd
  have h1m := hid (one_made h)
  have hty := hid (fun W => TypeOf_any h (by omega) W)
  have hut := hid (fun W => U32_any (Lms.typ h) W)
  have huk := hid (fun W => U32_any kd W)
  have hnl1 := hnl 1
  clear hnd hnl
  refine callsIn_wide.1 (callsIn_of_wp_marks (n := 10) Tryz.func13 pu_body trivial ?_ rfl)
  have hfr : (#[.agg #[.int .i64 (kd : Int), .int .i64 (h : Int), .string id, .string seed, .int .i64 nx]] ++ Array.replicate (Tryz.f13.ntmps - (#[.agg #[.int .i64 (kd : Int), .int .i64 (h : Int), .string id, .string seed, .int .i64 nx]] : Array Value).size) undef : Array Value) = #[.agg #[.int .i64 (kd : Int), .int .i64 (h : Int), .string id, .string seed, .int .i64 nx], undef, undef, undef, undef, undef, undef, undef, undef, undef, undef, undef, undef, undef, undef, undef, undef, undef, undef, undef, undef, undef, undef, undef, undef, undef, undef, undef, undef, undef, undef] := by kernel_rfl
  rw [hfr]
  refine wpIn_wide.2 ?_
  refine wp_seq ?_
  conv => arg 2; whnf
  go_wp2_with (first
    | ((with_reducible refine at_slot (some 1) ?_); refine wpList_run rfl (.pointer (some ⟨w.heap.size, 0, none⟩)) (w.alloc (.cells (keyC (kd : Int) (h : Int) id seed nx).toArray 39)) (by kernel_rfl) ?_; rw [hW0'.out])
    | fail)
  conv => arg 2; whnf
  go_wp2_with (first
    | ((with_reducible refine at_slot (some 7) ?_); refine wpList_load_mid rfl 39 (.tmp 1) rfl w.heap.size 0 rfl (keyC (kd : Int) (h : Int) id seed nx) _ (by exact h_all hK0.out) Tryz.underlying39 rfl (by exact hsk.out) ?_)
    | fail)
  refine (hmy.out _).mono ?_
  rintro e W1 ⟨rfl, hb⟩
  have hB1 := zup hb hB0
  have hK1 := zon hb hK0
  clear hb
  go_wp2_with fail
  conv => arg 2; whnf
  go_wp2_with (first
    | ((with_reducible refine at_slot (some 4) ?_); refine wpList_run rfl (.pointer (some ⟨W1.heap.size, 0, none⟩)) (W1.alloc (.cells z32 60)) (by kernel_rfl) ?_)
    | fail)
  obtain ⟨W2, hW2⟩ : ∃ W2, W1.alloc (.cells z32 60) = W2 := ⟨_, rfl⟩
  have hs2 := hid (show W2.heap.size = W1.heap.size + 1 from by rw [← hW2]; simp)
  have hb : Below W1.heap.size W1 W2 := by rw [← hW2]; exact (Below.refl _ _).alloc (Nat.le_refl _) _
  have hR2 := hid (show Holds W2 W1.heap.size 60 z32.toList from by rw [← hW2]; exact Holds.new _ _ _)
  have hB2 := zup hb hB1
  have hK2 := zon hb hK1
  rw [hW2]
  clear hb hW2
  conv => arg 2; whnf
  go_wp2_with (first
    | ((with_reducible refine at_slot (some 10) ?_); refine wpList_load_mid rfl 39 (.tmp 1) rfl w.heap.size 0 rfl (keyC (kd : Int) (h : Int) id seed nx) _ (by exact h_all hK2.out) Tryz.underlying39 rfl (by exact hsk.out) ?_)
    | fail)
  refine (nodes_any (kd : Int) (h : Int) id seed nx W2).mono ?_
  rintro e W3 ⟨rfl, hW3⟩
  have hb : Below W2.heap.size W2 W3 := by rw [hW3]; exact (Below.refl _ _).alloc (Nat.le_refl _) _
  have hs3 := hid (show W3.heap.size = W2.heap.size + 1 from by rw [hW3]; simp)
  have hs2' := hs2.out
  have hs3' := hs3.out
  have hk3 : Holds W3 W2.heap.size 39 (keyC (kd : Int) (h : Int) id seed nx) := by rw [hW3]; exact Holds.new _ _ _
  have hR3 := zon hb hR2
  have hB3 := zup hb hB2
  have hK3 := zon hb hK2
  have hall := hid (show SeqAll Fence.wide 9 Tryz.prog 51 #[.pointer (some ⟨W2.heap.size, 0, none⟩)] (fun r : Nat => #[.int .i64 (r : Int), .agg (byteCells (nd r)).toArray]) (fun _ => False) (KeepX (fun k => k = W1.heap.size)) (fun xs => xs = Lms.made h (2 ^ h)) (Lms.made h (2 ^ h)).length W3 from by
    rw [← hnd'.out]
    exact nodes_all 8 (fun k => k = W1.heap.size) W2.heap.size (by omega) p (kd : Int) hpar h h1 h5 id seed hi16 hs32 nx W3 (fun k hk => by omega) hk3)
  have hiK := hid hpar
  clear hb hW3 hk3 hs2' hs3' hpar
  go_wp2_with fail
  refine (wpIn_wide (n := 10)).1 ?_
  obtain ⟨kc, hkc⟩ : ∃ kc, keyC (kd : Int) (h : Int) id seed nx = kc := ⟨_, rfl⟩
  have g0 : kc[0]? = some (.int .i64 (kd : Int)) := by rw [← hkc]; rfl
  have g1 : kc[1]? = some (.int .i64 (h : Int)) := by rw [← hkc]; rfl
  have g2 : kc[2]? = some (.string id) := by rw [← hkc]; rfl
  rw [hkc] at hK3 ⊢
  have gg := hid (And.intro g0 (And.intro g1 g2))
  clear g0 g1 g2 hkc
  have hq1 : W1.heap.size < W3.heap.size := by have := hs2.out; have := hs3.out; omega
  have hq0 : w.heap.size < W1.heap.size := by have := hB1.out.size; have := hK1.out.lt; omega
  obtain ⟨cR, hcR⟩ : ∃ cR : List Nat → List Value, (fun pre => if 1 ∈ pre then byteCells (nd 1) else z32.toList) = cR := ⟨_, rfl⟩
  have k0 : cR [] = z32.toList := by rw [← hcR]; rfl
  have k1 := hid (fun pre => show cR (pre ++ [1]) = byteCells (nd 1) from by rw [← hcR]; exact if_pos (List.mem_append.2 (.inr (List.mem_singleton.2 rfl))))
  have k2 := hid (fun (pre : List Nat) (x : Nat) (hx : x ≠ 1) => show cR (pre ++ [x]) = cR pre from by
    rw [← hcR]
    have hmm : (1 ∈ pre ++ [x]) = (1 ∈ pre) := by
      apply propext
      rw [List.mem_append, List.mem_singleton]
      exact ⟨fun h => h.elim (fun h => h) (fun h => absurd h.symm hx), .inl⟩
    simp only [hmm])
  have k3 := hid (show cR (Lms.made h (2 ^ h)) = byteCells (nd 1) from by rw [← hcR]; exact if_pos h1m.out)
  have k4 := hid (fun pre => show (cR pre).length = 32 from by
    rw [← hcR]
    show (if 1 ∈ pre then byteCells (nd 1) else z32.toList).length = 32
    split
    · exact (hC.out 1).len
    · rfl)
  clear hcR
  rw [← k0] at hR3
  clear k0
  refine wpIn_range_all rfl (by omega) (gf := 51) (lb := #[.pointer (some ⟨W2.heap.size, 0, none⟩)]) rfl trivial (enters_of Tryz.func51 (by kernel_rfl) rfl)
    hall.out (Below.refl _ _) (fun _ => rfl) (fun _ h => h.elim) KeepX.trans (fun W l o o' _ hl ho => KeepX.put W l o o' hl ho)
    (fun pre W => Holds W W1.heap.size 60 (cR pre) ∧ Holds W w.heap.size 39 kc ∧ Below w.heap.size w W ∧ W3.heap.size ≤ W.heap.size)
    (fun s A B row ⟨i1, i2, i3, i4⟩ hg hr => by
      have hr' : ∀ r, row = some r → W3.heap.size ≤ r := fun r e => (hr r e).elim (fun h => h) (fun h => h.elim)
      exact ⟨i1.grown hg (fun e => by have := hr' _ e.symm; omega), i2.grown hg (fun e => by have := hr' _ e.symm; omega), i3.grown hg (by omega) (fun k e => by have := hr' _ e; omega), Nat.le_trans i4 hg.size⟩)
    ⟨hR3.out, hK3.out, hB3.out, Nat.le_refl _⟩
    (fun x a' W => ∃ g, a' = { tmps := #[.agg #[.int .i64 (kd : Int), .int .i64 (h : Int), .string id, .string seed, .int .i64 nx], .pointer (some ⟨w.heap.size, 0, none⟩), .string { data := #[] }, .int .i64 0, .pointer (some ⟨W1.heap.size, 0, none⟩), .int .i64 (x : Int), .pointer (some ⟨g, 0, none⟩), .agg kc.toArray, .bool true, .bool false, .agg kc.toArray, .func (.func 51) #[] #[.pointer (some ⟨W2.heap.size, 0, none⟩)], .int .i64 (x : Int), .agg (byteCells (nd x)).toArray, undef, undef, undef, undef, undef, undef, undef, undef, undef, undef, undef, undef, undef, undef, undef, undef, undef], defers := [] } ∧ W3.heap.size ≤ g ∧ Holds W g 60 (byteCells (nd x)))
    (fun x a' A B row ⟨g, q1, q2, q3⟩ hg hr => ⟨g, q1, q2, holds_kept q3 hg (fun r e => (hr r e).2)⟩) ?assign ?body ?done
  case assign =>
    rintro l pre x W K ⟨i1, i2, i3, i4⟩ hK
    have hCx := hid (hC.out x)
    gi_wp2_with (first
      | ((with_reducible refine at_slotIn (some 6) ?_); refine wpListIn_run rfl (fun c e => by cases e) (by kernel_rfl) (.pointer (some ⟨W.heap.size, 0, none⟩)) (W.alloc (.cells z32 60)) (by kernel_rfl) ?_)
      | ((with_reducible refine at_slotIn none ?_); refine wpListIn_store_mid rfl 60 (.tmp 6) (.tmp 13) rfl W.heap.size 0 (byteCells (nd x)).toArray rfl rfl (by exact hCx.out.there W) (by exact hCx.out.size) (by exact hCx.out.one) ?_)
      | fail)
    obtain ⟨W', hW'⟩ : ∃ W', (W.alloc (.cells z32 60)).setCells W.heap.size 0 (byteCells (nd x)) = W' := ⟨_, rfl⟩
    obtain ⟨hN, hb⟩ := hCx.out.new hW'
    rw [hW']
    have hsz := hb.size
    refine hK _ _ ⟨hb.size, fun i o _ hi _ => (hb.block i (Array.getElem?_eq_some_iff.1 hi).1).trans hi⟩ (KeepX.below hb) ⟨i1.below hb i1.lt, i2.below hb i2.lt, below_up hb i3, by omega⟩ ⟨W.heap.size, rfl, i4, hN⟩
  case body =>
    rintro l pre x a' W hl ⟨r0, hr0⟩ ⟨i1, i2, i3, i4⟩ ⟨g, rfl, hgl, hx⟩ hlt
    have j1 := hid i1
    have j2 := hid i2
    have j3 := hid i3
    have jx := hid hx
    have hCx := hid (hC.out x)
    have hlen' := hid (k4.out pre)
    clear i1 i2 i3 hx
    by_cases hx1 : x = 1
    · subst hx1
      have e1 : (((1 : Nat) : Int) == 1) = true := rfl
      gi_wp2_with (first
        | ((with_reducible refine at_slotIn (some 16) ?_); refine wpListIn_load_mid rfl 60 (.tmp 6) rfl g 0 rfl (byteCells (nd 1)) _ (by exact h_all jx.out) Tryz.underlying60 rfl (by exact hCx.out.size') ?_)
        | ((with_reducible refine at_slotIn none ?_); refine wpListIn_store_mid rfl 60 (.tmp 4) (.tmp 16) rfl W1.heap.size 0 (byteCells (nd 1)).toArray rfl rfl (by exact hCx.out.there' j1.out hlen'.out) (by exact hCx.out.size) (by exact hCx.out.one) ?_)
        | fail)
      obtain ⟨W', hW'⟩ : ∃ W', W.setCells W1.heap.size 0 (byteCells (nd 1)) = W' := ⟨_, rfl⟩
      have hN := hCx.out.over j1.out hlen'.out hW'
      have hg := grown_set hW'
      have hb3 := below_put j3.out (by omega) hW'
      have hb2 := holds_far j2.out (by omega) hW'
      rw [hW']
      refine ⟨KeepsFrom.of_grownBy hg (fun j e => by have := Option.some.inj e; omega), KeepX.grown rfl hg, ?_, hb2, hb3, Nat.le_trans i4 hg.size⟩
      rw [k1.out]
      exact hN
    · have e1 : ((x : Int) == 1) = false := by rw [beq_eq_false_iff_ne]; omega
      gi_wp2_with fail
      refine ⟨KeepsFrom.refl _ _, KeepX.refl _ _, ?_, j2.out, j3.out⟩
      rw [k2.out pre x hx1]
      exact j1.out
  case done =>
    rintro D xs W hD rfl ⟨i1, i2, i3, i4⟩ hK
    rw [k3.out] at i1
    have hR5 := hid i1
    have hG5 := hid i2
    have hB5 := hid i3
    have hD5 := hid hK
    clear i1 i2 i3 hK
    go_wp2_with fail
    obtain ⟨tt, htt⟩ : ∃ t, be 4 (Lms.typ h) = t := ⟨_, rfl⟩
    obtain ⟨tk, htk⟩ : ∃ t, be 4 kd = t := ⟨_, rfl⟩
    obtain ⟨tx, htx⟩ : ∃ t, txt (nd 1) = t := ⟨_, rfl⟩
    obtain ⟨th, hth⟩ : ∃ t, Lms.typ h = t := ⟨_, rfl⟩
    have hvx := hid (fun W g hh => hv_text (nd 1) hnl1 W g hh)
    have z1 : tt.size = 4 := by rw [← htt, be_size]
    have z2 : tk.size = 4 := by rw [← htk, be_size]
    have z3 : tx.size = 32 := by rw [← htx, txt_size, hnl1]
    have l1 : tt.size + tk.size ≤ 9223372036854775807 := by omega
    have l2 : tt.size + tk.size + id.size ≤ 9223372036854775807 := by omega
    have l3 : tt.size + tk.size + id.size + tx.size ≤ 9223372036854775807 := by omega
    have hty := hty
    have hans := hans
    rw [htx] at hvx
    rw [htt, htk, htx] at hans
    rw [htt, hth] at hut
    rw [htk] at huk
    rw [hth] at hty
    obtain ⟨cx, hcx⟩ : ∃ c, byteCells (nd 1) = c := ⟨_, rfl⟩
    rw [hcx] at hvx hR5
    clear htt htk htx hth hcx z1 z2 z3 hi16 hs32
    have hb : Below W.heap.size W W.drew := (Below.refl _ _).drew
    have hR6 := zon hb hR5
    have hG6 := zon hb hG5
    have hB6 := zup hb hB5
    have hD6 := hid (blk_on hD5.out hb)
    clear hb hR5 hG5 hB5 hD5
    refine wp_region_noPanic ?_
    refine wp_region_held_drew (S := fun V => Holds V W1.heap.size 60 cx ∧ Holds V w.heap.size 39 kc) (by kernel_rfl) (by exact ⟨hR6.out, hG6.out⟩) (fun zH => ?_)
    generalize W.drew = W6 at *
    refine tkx 0 (.pointer (some ⟨w.heap.size, 1, none⟩)) zH ?_; simp only [lp]
    refine tkx 1 (.int .i64 (h : Int)) zH ?_ (hy := .inl ⟨by kernel_rfl, fun V hS => by have c1 := hS.2.c 1 _ gg.out.2.1; go_simp⟩); simp only [lp]
    refine tkx 4 (.pointer (some ⟨w.heap.size, 0, none⟩)) zH ?_; simp only [lp]
    refine tkx 5 (.int .i64 (kd : Int)) zH ?_ (hy := .inl ⟨by kernel_rfl, fun V hS => by have c0 := hS.2.c 0 _ gg.out.1; go_simp⟩); simp only [lp]
    refine tkx 8 (.pointer (some ⟨w.heap.size, 2, none⟩)) zH ?_; simp only [lp]
    refine tkx 9 (.string id) zH ?_ (hy := .inl ⟨by kernel_rfl, fun V hS => by have c2 := hS.2.c 2 _ gg.out.2.2; go_simp⟩); simp only [lp]
    refine tkx 11 (.slice (some ⟨W1.heap.size, 0, none⟩) 32 32) zH ?_; simp only [lp]
    refine tkx 12 (.string tx) zH ?_ (hy := .inl ⟨by kernel_rfl, fun V hS => by have hc := hvx.out V _ hS.1; go_simp⟩); simp only [lp]
    refine wpAnyH_ready (rs := [2]) (by kernel_rfl) (by simp) (AllReadyH.cons rfl (fun K hK => ?_) AllReadyH.nil)
    have hK' := hid hK
    clear hK
    rw [if_pos (by kernel_rfl)]
    simp only [ly1, ly2, ly3]
    go_simp
    refine (hty.out _).mono ?_
    rintro e w' ⟨rfl, rfl⟩
    refine hK'.out _ _ (by exact ⟨hR6.out, hG6.out⟩) (fun zH => ?_)
    clear hK' K
    refine wpAnyH_ready (rs := [3]) (by kernel_rfl) (by simp) (AllReadyH.cons rfl (fun K hK => ?_) AllReadyH.nil)
    have hK' := hid hK
    clear hK
    rw [if_pos (by kernel_rfl)]
    simp only [ly1, ly2, ly3]
    go_simp
    refine (hut.out _).mono ?_
    rintro e W7 ⟨rfl, hb⟩
    have hR7 := zon hb hR6
    have hG7 := zon hb hG6
    have hB7 := zup hb hB6
    have hD7 := hid (blk_on hD6.out hb)
    clear hb hR6 hG6 hB6 hD6
    refine hK'.out _ _ (by exact ⟨hR7.out, hG7.out⟩) (fun zH => ?_)
    clear hK' K
    refine wpAnyH_ready (rs := [6]) (by kernel_rfl) (by simp) (AllReadyH.cons rfl (fun K hK => ?_) AllReadyH.nil)
    have hK' := hid hK
    clear hK
    rw [if_pos (by kernel_rfl)]
    simp only [ly1, ly2, ly3]
    go_simp
    refine (huk.out _).mono ?_
    rintro e W8 ⟨rfl, hb⟩
    have hR8 := zon hb hR7
    have hG8 := zon hb hG7
    have hB8 := zup hb hB7
    have hD8 := hid (blk_on hD7.out hb)
    clear hb hR7 hG7 hB7 hD7
    refine hK'.out _ _ (by exact ⟨hR8.out, hG8.out⟩) (fun zH => ?_)
    clear hK' K
    refine tkx 7 (.string (tt ++ tk)) zH ?_; simp only [lp]
    refine tkx 10 (.string (tt ++ tk ++ id)) zH ?_; simp only [lp]
    refine tkx 13 (.string (tt ++ tk ++ id ++ tx)) zH ?_; simp only [lp]
    refine tkx 14 (.string (tt ++ tk ++ id ++ tx)) zH ?_; simp only [lp]
    refine tkx 15 (.int .i64 0) zH ?_; simp only [lp]
    refine wpAnyH_done (by kernel_rfl) ?_ _
    refine NoPanic.normal ?_
    go_wp2_with fail
    refine ⟨by simp, .inl ⟨_, _, rfl, run_takeDeferred hD8.out, ?_⟩⟩
    exact ⟨_, results_tt rfl _ _ _ _ rfl rfl, by rw [hans.out]; rfl, hB8.out.trans (belowK_b (w := w) (Nat.le_refl _) _ D _ _ (by omega) hD8.out rfl rfl)⟩


end Go.Proofs.YtmfajekfipfjpaaGreat
namespace Go.Proofs.YtmfajekfipfjpaaGreat
open Go.RowKit Go.Shelf
attribute [local irreducible] Sha.compress Sha.blocks Sha.sha Sha.pad
attribute [local go_sem] Oper.semAt_some

theorem SeqAll.inRound {α : Type} {F : Fence} {n : Nat} {P : Program} {g : Nat} {lb : Array Value} {encs : α → Array Value} {Y : Nat → Prop} {Kp : World → World → Prop} {S : List α → Prop} {N : Nat} {w : World} (l : Nat) (h : SeqAll F n P g lb encs Y Kp S N w) : SeqAll (F.inRound l) n P g lb encs Y Kp S N w := h

theorem beside_any (r : Int) (w : World) : Calls Tryz.prog 37 #[.int .i64 r] w fun e w' => e = .returned (.func (.func 66) #[] #[.pointer (some ⟨w.heap.size, 0, none⟩)]) ∧ w' = w.alloc (.cells #[.int .i64 r] 3) := by
  go_enter Tryz.func37, Tryz.ntmps37
  go_wp2_with fail
  go_ret
  exact ⟨rfl, rfl⟩

theorem xor_one_small : ∀ r, r < 64 → r ^^^ 1 = Lms.other r := by decide
theorem xor_one (r : Nat) (h : r < 64) : bits .xor .i64 (r : Int) 1 = ((Lms.other r : Nat) : Int) := by
  have hx := xor_one_small r h
  have ho : Lms.other r < 65 := by unfold Lms.other; split <;> omega
  have e : bits .xor .i64 (r : Int) 1 = IntKind.i64.wrap ((BitVec.ofInt 64 (r : Int) ^^^ BitVec.ofInt 64 ((1 : Nat) : Int)).toNat : Int) := rfl
  rw [e, BitVec.ofInt_natCast, BitVec.ofInt_natCast, BitVec.toNat_xor, BitVec.toNat_ofNat, BitVec.toNat_ofNat, Nat.mod_eq_of_lt (by omega), Nat.mod_eq_of_lt (by omega), hx, IntWalk.i64_in _ (by omega)]

/-- The number beside the way at place i. -/
def sideN (r i : Nat) : Nat := Lms.other (r / 2 ^ i)
theorem fin_next {h k : Nat} (hk : k < h) : (List.finRange h).take (k + 1) = (List.finRange h).take k ++ [⟨k, hk⟩] := by
  have e : (List.finRange h)[k]? = some ⟨k, hk⟩ := by
    rw [List.getElem?_eq_getElem (by rw [List.length_finRange]; exact hk)]
    simp
  rw [List.take_add_one, e]
  rfl

set_option maxHeartbeats 1000000 in
theorem beside_all (m : Nat) (X : Nat → Prop) (b : Nat) (hXb : ¬ X b) (r h : Nat) (hr1 : 2 ^ h ≤ r) (hr2 : r < 2 ^ (h + 1)) (h5 : h ≤ 5) (w : World) (hb : Holds w b 3 [.int .i64 (r : Int)]) :
    SeqAll Fence.wide (m + 1) Tryz.prog 66 #[.pointer (some ⟨b, 0, none⟩)] (fun i : Fin h => #[.int .i64 ((i : Nat) : Int), .int .i64 ((sideN r i : Nat) : Int)]) (fun k => k = b) (KeepX X) (fun xs => xs = List.finRange h) h w := fun l J W hW hJ hY h0 => by
  have hbW := hid (hb.below hW hb.lt)
  have hJj := hid hJ
  have hYy := hid hY
  have hp5 : 2 ^ (h + 1) ≤ 64 := by
    have := Nat.pow_le_pow_right (show 0 < 2 by decide) (show h + 1 ≤ 6 by omega)
    omega
  have hr1' := hid hr1
  have hr2' := hid hr2
  clear hJ hY hb hr1 hr2
  refine callsIn_of_wp Tryz.func66 rfl trivial ?_ rfl
  simp only [Tryz.ntmps66, List.size_toArray, List.length_cons, List.length_nil, Nat.reduceAdd, Nat.reduceSub, Array.replicate_succ, Array.replicate_zero, List.push_toArray, List.append_toArray, List.nil_append, List.cons_append]
  gi_wp2_with fail
  gi_loopw [3] (fun i wr => ∃ (k u : Nat), k ≤ h ∧ i = .int .i64 (k : Int) ∧ u = r / 2 ^ k ∧ 2 ^ (h - k) ≤ u ∧ u < 2 ^ (h - k + 1) ∧ J ((List.finRange h).take k) wr ∧ Holds wr b 3 [.int .i64 (u : Int)]) (fun i _ => h - (intOf i).toNat)
  case atStart => exact ⟨0, r, Nat.zero_le _, rfl, by rw [Nat.pow_zero, Nat.div_one], by rw [Nat.sub_zero]; exact hr1'.out, by rw [Nat.sub_zero]; exact hr2'.out, h0, hbW.out⟩
  case round =>
    obtain ⟨k, u, hk, rfl, hu, hu1, hu2, hJk, hH⟩ := hrel
    have hu64 : u < 64 := by
      have := Nat.pow_le_pow_right (show 0 < 2 by decide) (show h - k + 1 ≤ h + 1 by omega)
      omega
    have hu' := hid hu
    have hH0 := hid hH
    have hJ0 := hid hJk
    have c0 : wr.cell? ⟨b, 0, none⟩ = some (.int .i64 (u : Int)) := hH.c 0 _ rfl
    clear hu hH hJk
    by_cases h1 : 1 < u
    · have h1i : (1 : Int) < (u : Int) := by omega
      have hkh : k < h := by
        rcases Nat.eq_or_lt_of_le hk with rfl | h2
        · rw [Nat.sub_self] at hu2
          simp at hu2
          omega
        · exact h2
      have hp : 2 ^ (h - k) = 2 * 2 ^ (h - (k + 1)) := by
        rw [show h - k = (h - (k + 1)) + 1 from by omega, Nat.pow_succ, Nat.mul_comm]
      have hp2 : 2 ^ (h - k + 1) = 2 * 2 ^ (h - k) := by rw [Nat.pow_succ 2 (h - k), Nat.mul_comm]
      have hp3 : 2 ^ (h - (k + 1) + 1) = 2 ^ (h - k) := by rw [show h - (k + 1) + 1 = h - k from by omega]
      have hx := xor_one u hu64
      obtain ⟨v, hv⟩ : ∃ v, u / 2 = v := ⟨_, rfl⟩
      have hv1 : 2 ^ (h - (k + 1)) ≤ v := by omega
      have hv2 : v < 2 ^ (h - (k + 1) + 1) := by omega
      have htd : (u : Int).tdiv 2 = (v : Int) := by rw [Int.tdiv_eq_ediv_of_nonneg (by omega)]; omega
      have hvw := IntWalk.i64_in (v : Int) (by omega)
      have hkw := IntWalk.i64_in ((k : Int) + 1) (by omega)
      have hvv := hid (show v = r / 2 ^ (k + 1) from by rw [← hv, hu'.out, Nat.pow_succ, Nat.div_div_eq_div_mul])
      have hnx := hid (fin_next hkh)
      obtain ⟨ot, hot⟩ : ∃ ot, Lms.other u = ot := ⟨_, rfl⟩
      have hso : sideN r k = ot := by unfold sideN; rw [← hu'.out, hot]
      rw [hot] at hx
      obtain ⟨fn1, tmps1, assign1, body1, hy1, hR1⟩ := hYy.out ((List.finRange h).take k) ⟨k, hkh⟩ wr hJ0.out (by rw [List.length_take, List.length_finRange]; omega)
      dsimp only at hy1
      rw [hso] at hy1
      clear hv hp hp2 hp3 hot hu1 hu2 hso
      gi_wp2_with fail
      refine hR1.mono ?_
      rintro e W5 ⟨rfl, hJ5, hK5⟩
      rw [← hnx.out] at hJ5
      have hH5 := hid (hK5.holds hH0.out hXb)
      have d0 : W5.cell? ⟨b, 0, none⟩ = some (.int .i64 (u : Int)) := hH5.out.c 0 _ rfl
      have hJ5' := hid hJ5
      have hfz : W5.frozen? ⟨b, 0, none⟩ = false := hH5.out.frozen 0
      clear hJ5 hK5 hR1 hy1
      gi_wp2_with fail
      obtain ⟨W6, hW6⟩ : ∃ W6, W5.setCell ⟨b, 0, none⟩ (.int .i64 (v : Int)) = W6 := ⟨_, rfl⟩
      have hg6 : W5.grownBy W6 (some b) := grown_set (vs := [.int .i64 (v : Int)]) hW6
      have hH6 : Holds W6 b 3 [.int .i64 (v : Int)] := by rw [← hW6]; exact hH5.out.set 0 _
      have hJ6 := hJj.out _ _ _ _ hJ5'.out hg6 (fun q e => .inr (by cases e; rfl))
      rw [hW6]
      go_roundw
      case rel => exact ⟨k + 1, v, hkh, by go_num, hvv.out, hv1, hv2, hJ6, hH6⟩
      case measure => simp [intOf]; omega
    · have h1i : ¬ (1 : Int) < (u : Int) := by omega
      obtain rfl : k = h := by
        rcases Nat.eq_or_lt_of_le hk with e | h2
        · exact e
        · have := Nat.pow_le_pow_right (show 0 < 2 by decide) (show 1 ≤ h - k by omega)
          omega
      have hall : (List.finRange k).take k = List.finRange k := List.take_of_length_le (by rw [List.length_finRange]; exact Nat.le_refl _)
      rw [hall] at hJ0
      clear hall
      gi_wp2
      go_end0
      exact ⟨⟨_, rfl⟩, hJ0.out⟩

end Go.Proofs.YtmfajekfipfjpaaGreat
