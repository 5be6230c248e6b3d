/- Layer 11, the reference's side: an object's hash, a store in memory; NewStore, Len.
   Layer 11, the reference's side: a store's Get.
   Layer 11, the reference's side: a store's Put.
   Layer 11, the reference's side: a store's Add. -/
import Derived.Test.YtpjfhbmegabafaaLObP
import Derived.Test.YtpjfhbmegabafaaLRefTagX
import Derived.Test.YtpjfhbmegabafaaLObPr
namespace Go.Proofs.Ytpjfhbmegabafaa
open Go.RowKit
open Go.Lib (strCells strCells_length strCells_oneCell)
attribute [local irreducible] Sha.compress Sha.blocks Sha.sha Sha.pad

/-- An object's hash, as the document's Object tells it. -/
def objAns (d : ByteArray) : List UInt8 := if d.size ≤ 65536 then obHash d else List.replicate 32 0
theorem objAns_len (d : ByteArray) : (objAns d).length = 32 := by
  unfold objAns
  split
  · exact obHash_len d
  · rfl
theorem z32_eqR : z32 = (byteCells (List.replicate 32 0)).toArray := by kernel_rfl
theorem rTag1_any (d : ByteArray) (hd : d.size ≤ 140737488351232) (n : Nat) (w : World) :
    Calls Try.prog 38 #[.int .i64 0, .slice (some ⟨w.heap.size, 0, none⟩) 1 n] (w.alloc (.cells #[.string d] 9)) fun e w' => ∃ x : Int, e = .returned (.tuple #[.agg (byteCells (objAns d)).toArray, .int .i64 x]) ∧ Below w.heap.size w w' := by
  have hX := Texts.new w [d] #[.string d] rfl 1 rfl 9
  have hz : ∀ s ∈ [d], s.size ≤ 140737488351232 := fun s h => by rw [List.mem_singleton.1 h]; exact hd
  refine (refTag_any 0 _ 1 n _ _ hX (by decide) hz).mono ?_
  rintro e w' ⟨rfl, hb⟩
  have hb0 : Below w.heap.size w (w.alloc (.cells #[.string d] 9)) := (Below.refl _ _).alloc (Nat.le_refl _) _
  refine ⟨(tagAns 0 [d]).2, ?_, hb0.trans (hb.mono hb0.size)⟩
  have e : (tagAns 0 [d]).1 = .agg (byteCells (objAns d)).toArray := by
    unfold tagAns objAns
    have hm : tagMay 0 [d] = decide (d.size ≤ 65536) := by
      unfold tagMay
      simp [totS]
    rw [hm]
    by_cases h : d.size ≤ 65536
    · rw [if_pos h, decide_eq_true h, if_pos rfl]; rfl
    · rw [if_neg h, decide_eq_false h, if_neg (by decide), z32_eqR]
  rw [e]
set_option maxRecDepth 100000 in
set_option maxHeartbeats 1000000 in
theorem rObject_any (d : ByteArray) (hd : d.size ≤ 140737488351232) (w : World) : Calls Try.prog 17 #[.string d] w fun e w' => e = .returned (.agg (byteCells (objAns d)).toArray) ∧ Below w.heap.size w w' := by
  have hT := hid (fun n W => rTag1_any d hd n W)
  obtain ⟨l, hl⟩ : ∃ l, objAns d = l := ⟨_, rfl⟩
  have l32 : l.length = 32 := by rw [← hl]; exact objAns_len d
  rw [hl] at hT ⊢
  have hC := hid (hash_cells l l32)
  have hC2 := hid (show (Try.prog.info? 33).map (·.size) = some (byteCells l).length from by have := hC.out.size; rwa [List.size_toArray] at this)
  obtain ⟨W0, hW0⟩ : ∃ W0, w.alloc (.cells z32 33) = W0 := ⟨_, rfl⟩
  have hZ0 := hid (show Holds W0 w.heap.size 33 z32.toList from by rw [← hW0]; exact Holds.new _ _ _)
  have hB0 := hid (show Below w.heap.size w W0 from by rw [← hW0]; exact (Below.refl _ _).alloc (Nat.le_refl _) _)
  have hW0' := hid hW0
  clear hW0 hl l32 hd
  go_enter Try.func17, Try.ntmps17
  go_wp2_with (first
    | ((with_reducible refine at_slot (some 2) ?_); refine wpList_run rfl (.pointer (some ⟨w.heap.size, 0, none⟩)) (w.alloc (.cells z32 33)) (by kernel_rfl) ?_; rw [hW0'.out])
    | fail)
  refine (hT.out _ W0).mono ?_
  rintro e W1 ⟨x, rfl, hb⟩
  have hZ1 := hid (hZ0.out.below hb hZ0.out.lt)
  have hB1 := hid (below_up hb hB0.out)
  clear hb hZ0 hB0
  try (rename_i hKK; refine hKK _ _ ?_; clear hKK)
  go_wp2_with (first
    | ((with_reducible refine at_slot (some 3) ?_); refine wpList_run rfl (.pointer (some ⟨W1.heap.size, 0, none⟩)) (W1.alloc (.cells z32 33)) (by kernel_rfl) ?_)
    | ((with_reducible refine at_slot none ?_); refine wpList_store_mid rfl 33 (.tmp 3) (.tmp 9) rfl W1.heap.size 0 (byteCells l).toArray rfl rfl (by exact hC.out.there W1) (by exact hC.out.size) (by exact hC.out.one) ?_; generalize hW : World.setCells _ _ _ _ = W2; obtain ⟨hN, hb⟩ := hC.out.new hW; have hZ2 := hid (hZ1.out.below hb hZ1.out.lt); have hB2 := hid (below_up hb hB1.out); have hX2 := hid hN; clear hb hZ1 hB1 hN; clear hW)
    | ((with_reducible refine at_slot (some 11) ?_); refine wpList_load_mid rfl 33 (.tmp 3) rfl W1.heap.size 0 rfl (byteCells l) _ (by exact h_all hX2.out) Try.underlying33 rfl (by exact hC2.out) ?_)
    | ((with_reducible refine at_slot none ?_); refine wpList_store_mid rfl 33 (.tmp 2) (.tmp 11) rfl w.heap.size 0 (byteCells l).toArray rfl rfl (by exact hZ2.out.there 0 _ (by rw [List.size_toArray, hC.out.len]; decide)) (by exact hC.out.size) (by exact hC.out.one) ?_; generalize hW9 : World.setCells _ _ _ _ = W9; have hZ9 := hid (Holds.over hZ2.out (by rw [hC.out.len]; rfl) hW9); have hB9 := hid (below_put hB2.out (Nat.le_refl _) hW9); clear hW9)
    | fail)
  exact bodyPost_ret (results_cell_row rfl _ _ w.heap.size 33 _ (0, 0) _ rfl hZ9.out Try.underlying33 rfl (by exact hC.out.size)) rfl ⟨rfl, hB9.out⟩

/-- The cells of a row of objects. -/
def rowOb (m : Obs) : List Value := m.flatMap obCells
theorem rowOb_at : ∀ {m : Obs} {k : Nat} {p : List UInt8 × ByteArray} {j : Nat} {v : Value}, (∀ p ∈ m, p.1.length = 32) → m[k]? = some p → (obCells p)[j]? = some v → (rowOb m)[k * 33 + j]? = some v
  | [], _, _, _, _, _, hk, _ => by cases hk
  | q :: m, 0, p, j, v, _, hk, hj => by
    have e : q = p := by simpa using hk
    subst e
    show (obCells q ++ rowOb m)[0 * 33 + j]? = _
    have hlt : j < (obCells q).length := (List.getElem?_eq_some_iff.1 hj).1
    rw [Nat.zero_mul, Nat.zero_add, List.getElem?_append_left hlt]
    exact hj
  | q :: m, k + 1, p, j, v, h, hk, hj => by
    have e : (obCells q).length = 33 := by unfold obCells; rw [List.length_append, byteCells, List.length_map, h q (List.mem_cons_self ..)]; rfl
    show (obCells q ++ rowOb m)[(k + 1) * 33 + j]? = _
    rw [List.getElem?_append_right (by omega), e, show (k + 1) * 33 + j - 33 = k * 33 + j from by omega]
    exact rowOb_at (fun p hp => h p (List.mem_cons_of_mem _ hp)) (by simpa using hk) hj
theorem rowOb_snoc (m : Obs) (p : List UInt8 × ByteArray) : rowOb (m ++ [p]) = rowOb m ++ obCells p := by simp [rowOb]

/-- The document's store in memory: its block r, its row at B or above. -/
def RStoreAt (w : World) (B r most : Nat) (m : Obs) : Prop := ∃ A c, Holds w r 82 [.int .i64 (most : Int), .slice A m.length c] ∧ w.ownsRow B 85 33 (.slice A m.length c) m.length (rowOb m) ∧ ObOk m ∧ most ≤ 1024 ∧ m.length ≤ most
theorem rown_on {w w' : World} {n0 c k sz : Nat} {A : Option Addr} {t : TypeId} {cs : List Value} (h : w.ownsRow n0 t sz (.slice A k c) k cs) (hb : Below w.heap.size w w') : w'.ownsRow n0 t sz (.slice A k c) k cs := by
  have hlt := h.lt
  obtain ⟨h1, h2 | ⟨g, cap, cur, hv, hB, hh, rest⟩⟩ := h
  · exact ⟨h1, .inl h2⟩
  · refine ⟨h1, .inr ⟨g, cap, cur, hv, hB, ?_, rest⟩⟩
    rw [hb.block g (hlt g (by rw [hv]; rfl)).2]
    exact hh
theorem RStoreAt.on {w w' : World} {B r most : Nat} {m : Obs} (h : RStoreAt w B r most m) (hb : Below w.heap.size w w') : RStoreAt w' B r most m := by
  obtain ⟨A, c, h1, h2, h3⟩ := h
  exact ⟨A, c, h1.below hb h1.lt, rown_on h2 hb, h3⟩
/-- A row of objects, at one of them. -/
theorem rown_at {w : World} {B c k : Nat} {A : Option Addr} {m : Obs} {p : List UInt8 × ByteArray} (h : w.ownsRow B 85 33 (.slice A m.length c) m.length (rowOb m)) (hl : ∀ p ∈ m, p.1.length = 32) (hk : m[k]? = some p) :
    ∃ g, A = some ⟨g, 0, none⟩ ∧ ∀ j v, (obCells p)[j]? = some v → w.cell? (((⟨g, 0, none⟩ : Addr).add (k * 33)).add j) = some v := by
  have hlt : k < m.length := (List.getElem?_eq_some_iff.1 hk).1
  have h0 := h
  obtain ⟨h1, ⟨hv, h2⟩ | ⟨g, cap, cur, hv, -⟩⟩ := h
  · omega
  · injection hv with e1 e2 e3
    subst e1
    refine ⟨g, rfl, fun j v hj => ?_⟩
    have hc := h0.cells (g := g) rfl (k * 33 + j) v (rowOb_at hl hk hj)
    have e : ((⟨g, 0, none⟩ : Addr).add (k * 33)).add j = (⟨g, 0, none⟩ : Addr).add (k * 33 + j) := by
      unfold Addr.add
      by_cases h1 : k * 33 = 0 <;> by_cases h2 : j = 0 <;> simp [h1, h2]
      all_goals omega
    rw [e]
    exact hc
/-- All that is no row of objects, but for block r, is as it was. -/
def KeepO (r : Nat) (w w' : World) : Prop := w.heap.size ≤ w'.heap.size ∧ ∀ i o, w.heap[i]? = some o → i ≠ r → (∀ cs fr, o ≠ .cells cs 85 fr) → w'.heap[i]? = some o
theorem KeepO.refl (r : Nat) (w : World) : KeepO r w w := ⟨Nat.le_refl _, fun _ _ h _ _ => h⟩
theorem KeepO.trans {r : Nat} {a b c : World} (h : KeepO r a b) (k : KeepO r b c) : KeepO r a c := ⟨Nat.le_trans h.1 k.1, fun i o hi hr ho => k.2 i o (h.2 i o hi hr ho) hr ho⟩
theorem KeepO.of {r : Nat} {w w' : World} (h : Below w.heap.size w w') : KeepO r w w' := ⟨h.size, fun i _ hi _ _ => (h.block i (Array.getElem?_eq_some_iff.1 hi).1).trans hi⟩
theorem KeepO.holds {r : Nat} {w w' : World} (h : KeepO r w w') {g : Nat} {t : TypeId} {cs : List Value} (hh : Holds w g t cs) (hr : g ≠ r) (ht : t ≠ 85) : Holds w' g t cs := h.2 g _ hh hr (fun cs fr e => by injection e with _ e2; exact ht e2)
theorem KeepO.store {r : Nat} {w w' : World} (h : KeepO r w w') {s b most : Nat} {m : Obs} (hh : StoreAt w s b most m) (hr : s ≠ r) (hb : b ≠ r) : StoreAt w' s b most m := by
  obtain ⟨h1, ⟨es, clock, h2, h3⟩, h4⟩ := hh
  exact ⟨h.holds h1 hr (by decide), ⟨es, clock, h.2 b _ h2 hb (fun cs fr e => by cases e), h3⟩, h4⟩

end Go.Proofs.Ytpjfhbmegabafaa
namespace Go.Proofs.Ytpjfhbmegabafaa
open Go.RowKit
open Go.Lib (strCells strCells_length strCells_oneCell)
attribute [local irreducible] Sha.compress Sha.blocks Sha.sha Sha.pad

theorem obGet_fst {m : Obs} {k : List UInt8} {i : Nat} {p : List UInt8 × ByteArray} (hn : ∀ j q, j < i → m[j]? = some q → q.1 ≠ k) (hi : m[i]? = some p) (hp : p.1 = k) : obGet m k = some p.2 := by
  have hs : m = m.take i ++ p :: m.drop (i + 1) := by
    have hlt := (List.getElem?_eq_some_iff.1 hi).1
    have he := (List.getElem?_eq_some_iff.1 hi).2
    rw [← he, List.getElem_cons_drop, List.take_append_drop]
  have h1 : (m.take i).find? (fun p => p.1 == k) = none := by
    rw [List.find?_eq_none]
    intro q hq e
    obtain ⟨j, hj, rfl⟩ := List.getElem_of_mem hq
    rw [List.length_take] at hj
    exact hn j _ (by omega) (by rw [List.getElem_take, List.getElem?_eq_getElem]) (eq_of_beq e)
  unfold obGet
  rw [hs, List.find?_append, h1, Option.none_or, List.find?_cons_of_pos (by rw [hp]; exact beq_self_eq_true k)]
  rfl
theorem obGet_out {m : Obs} {k : List UInt8} (hn : ∀ j q, j < m.length → m[j]? = some q → q.1 ≠ k) : obGet m k = none := by
  rw [obGet_none]
  intro p hp
  obtain ⟨j, hj, rfl⟩ := List.getElem_of_mem hp
  exact hn j _ hj (List.getElem?_eq_getElem hj)
end Go.Proofs.Ytpjfhbmegabafaa
namespace Go.Proofs.Ytpjfhbmegabafaa
open Go.RowKit
open Go.Lib (strCells strCells_length strCells_oneCell)
attribute [local irreducible] Sha.compress Sha.blocks Sha.sha Sha.pad

theorem rown_apart {w : World} {n0 c k sz q : Nat} {A : Option Addr} {t t' : TypeId} {cs cs' : List Value} (h : w.ownsRow n0 t sz (.slice A k c) k cs) (hq : Holds w q t' cs') (ht : t' ≠ t) : (Value.slice A k c).ownBlock ≠ some q := by
  intro e
  obtain ⟨h1, ⟨hv, _⟩ | ⟨g, cap, cur, hv, hB, hh, rest⟩⟩ := h
  · rw [hv] at e; cases e
  · rw [hv] at e
    have e1 : g = q := Option.some.inj e
    subst e1
    unfold Holds at hq
    rw [hh] at hq
    have := Option.some.inj hq
    injection this with e2 e3
    exact ht e3.symm
theorem RStoreAt.far {w W : World} {B r most g o : Nat} {t : TypeId} {cs vs : List Value} {m : Obs} (h : RStoreAt w B r most m) (hg : Holds w g t cs) (ht : t ≠ 85) (hr : r ≠ g) (e : w.setCells g o vs = W) : RStoreAt W B r most m := by
  obtain ⟨A, c, h1, h2, h3⟩ := h
  exact ⟨A, c, holds_far h1 hr e, row_far h2 (rown_apart h2 hg ht) e, h3⟩
theorem KeepO.far {r g o : Nat} {a w W : World} {vs : List Value} (h : KeepO r a w) (hg : a.heap.size ≤ g) (e : w.setCells g o vs = W) : KeepO r a W := by
  subst e
  have hb := below_setCells (Below.refl g w) g o vs (Nat.le_refl _)
  exact ⟨Nat.le_trans h.1 hb.size, fun i x hi hr hx => (hb.block i (Nat.lt_of_lt_of_le (Array.getElem?_eq_some_iff.1 hi).1 hg)).trans (h.2 i x hi hr hx)⟩
theorem KeepO.own {r g o : Nat} {a w W : World} {vs : List Value} (h : KeepO r a w) (hg : g = r) (e : w.setCells g o vs = W) : KeepO r a W := by
  subst e
  have hb := below_setCells (Below.refl 0 w) g o vs (Nat.zero_le _)
  exact ⟨Nat.le_trans h.1 hb.size, fun i x hi hr hx => (setCells_far w g o vs i (by rw [hg]; exact hr)).trans (h.2 i x hi hr hx)⟩
theorem KeepO.grown {r n0 c k : Nat} {A : Option Addr} {w W : World} {cs : List Value} (h : w.ownsRow n0 85 33 (.slice A k c) k cs) (hg : w.grownBy W (Value.slice A k c).ownBlock) : KeepO r w W := by
  refine ⟨hg.size, fun i x hi _ hx => (hg.block i (Array.getElem?_eq_some_iff.1 hi).1 (fun e => ?_)).trans hi⟩
  obtain ⟨h1, ⟨hv, _⟩ | ⟨g, cap, cur, hv, hB, hh, rest⟩⟩ := h
  · rw [hv] at e; cases e
  · rw [hv] at e
    have e1 : i = g := Option.some.inj e
    subst e1
    rw [hh] at hi
    exact hx _ _ (Option.some.inj hi).symm
theorem infoObj : (Try.prog.info? 85).map (fun i => (i.zero, i.size, i.bytes)) = some (some (.agg zOb.toArray), 33, 48) := by kernel_rfl
end Go.Proofs.Ytpjfhbmegabafaa
namespace Go.Proofs.Ytpjfhbmegabafaa
open Go.RowKit
open Go.Lib (strCells strCells_length strCells_oneCell)
attribute [local irreducible] Sha.compress Sha.blocks Sha.sha Sha.pad

end Go.Proofs.Ytpjfhbmegabafaa
