/- Layer 11, the reference's side: an object's hash, a store in memory; NewStore, Len.
   Layer 11, the reference's side: a store's Get.
   Layer 11, the reference's side: a store's Put.
   Layer 11, the reference's side: a store's Add.
   Layer 11: Clash: whether two unlike texts have one hash.
   The statements' helper on error numbers (folder almonrylaw0).
   Layer 11: what every program answers that is one.
   Numbers cut to some bits, to a rest. No function of the program is named here.
   Layer 11: ObjectForms.
   Layer 12, the reference's side: Once, row. -/
import Derived.Test.YtpjfhbmegabafaaKObP
import Derived.Test.YtpjfhbmegabafaaKRefTagX
import Derived.Test.YtpjfhbmegabafaaKObPr
import Derived.Test.YtpjfhbmegabafaaRows
import Derived.Test.YtpjfhbmegabafaaKYields
import Derived.Test.YtpjfhbmegabafaaKShaNu
import Derived.IntWalk
import Derived.Test.YtpjfhbmegabafaaKFtE
import Derived.Test.YtpjfhbmegabafaaKRefBe
namespace Go.Proofs.Ytpjfhbmegabafaa
open Go.RowKit
open Go.Lib (strCells strCells_length strCells_oneCell)
attribute [local irreducible] Sha.compress Sha.blocks Sha.sha Sha.pad

/-- An object's hash, as the document's Object tells it. -/
def objAns (d : ByteArray) : List UInt8 := if d.size ≤ 65536 then obHash d else List.replicate 32 0
theorem objAns_len (d : ByteArray) : (objAns d).length = 32 := by
  unfold objAns
  split
  · exact obHash_len d
  · rfl
theorem z32_eqR : z32 = (byteCells (List.replicate 32 0)).toArray := by kernel_rfl
theorem rTag1_any (d : ByteArray) (hd : d.size ≤ 140737488351232) (n : Nat) (w : World) :
    Calls Try.prog 38 #[.int .i64 0, .slice (some ⟨w.heap.size, 0, none⟩) 1 n] (w.alloc (.cells #[.string d] 9)) fun e w' => ∃ x : Int, e = .returned (.tuple #[.agg (byteCells (objAns d)).toArray, .int .i64 x]) ∧ Below w.heap.size w w' := by
  have hX := Texts.new w [d] #[.string d] rfl 1 rfl 9
  have hz : ∀ s ∈ [d], s.size ≤ 140737488351232 := fun s h => by rw [List.mem_singleton.1 h]; exact hd
  refine (refTag_any 0 _ 1 n _ _ hX (by decide) hz).mono ?_
  rintro e w' ⟨rfl, hb⟩
  have hb0 : Below w.heap.size w (w.alloc (.cells #[.string d] 9)) := (Below.refl _ _).alloc (Nat.le_refl _) _
  refine ⟨(tagAns 0 [d]).2, ?_, hb0.trans (hb.mono hb0.size)⟩
  have e : (tagAns 0 [d]).1 = .agg (byteCells (objAns d)).toArray := by
    unfold tagAns objAns
    have hm : tagMay 0 [d] = decide (d.size ≤ 65536) := by
      unfold tagMay
      simp [totS]
    rw [hm]
    by_cases h : d.size ≤ 65536
    · rw [if_pos h, decide_eq_true h, if_pos rfl]; rfl
    · rw [if_neg h, decide_eq_false h, if_neg (by decide), z32_eqR]
  rw [e]
set_option maxRecDepth 100000 in
set_option maxHeartbeats 1000000 in
theorem rObject_any (d : ByteArray) (hd : d.size ≤ 140737488351232) (w : World) : Calls Try.prog 17 #[.string d] w fun e w' => e = .returned (.agg (byteCells (objAns d)).toArray) ∧ Below w.heap.size w w' := by
  have hT := hid (fun n W => rTag1_any d hd n W)
  obtain ⟨l, hl⟩ : ∃ l, objAns d = l := ⟨_, rfl⟩
  have l32 : l.length = 32 := by rw [← hl]; exact objAns_len d
  rw [hl] at hT ⊢
  have hC := hid (hash_cells l l32)
  have hC2 := hid (show (Try.prog.info? 33).map (·.size) = some (byteCells l).length from by have := hC.out.size; rwa [List.size_toArray] at this)
  obtain ⟨W0, hW0⟩ : ∃ W0, w.alloc (.cells z32 33) = W0 := ⟨_, rfl⟩
  have hZ0 := hid (show Holds W0 w.heap.size 33 z32.toList from by rw [← hW0]; exact Holds.new _ _ _)
  have hB0 := hid (show Below w.heap.size w W0 from by rw [← hW0]; exact (Below.refl _ _).alloc (Nat.le_refl _) _)
  have hW0' := hid hW0
  clear hW0 hl l32 hd
  go_enter Try.func17, Try.ntmps17
  go_wp2_with (first
    | ((with_reducible refine at_slot (some 2) ?_); refine wpList_run rfl (.pointer (some ⟨w.heap.size, 0, none⟩)) (w.alloc (.cells z32 33)) (by kernel_rfl) ?_; rw [hW0'.out])
    | fail)
  refine (hT.out _ W0).mono ?_
  rintro e W1 ⟨x, rfl, hb⟩
  have hZ1 := hid (hZ0.out.below hb hZ0.out.lt)
  have hB1 := hid (below_up hb hB0.out)
  clear hb hZ0 hB0
  try (rename_i hKK; refine hKK _ _ ?_; clear hKK)
  go_wp2_with (first
    | ((with_reducible refine at_slot (some 3) ?_); refine wpList_run rfl (.pointer (some ⟨W1.heap.size, 0, none⟩)) (W1.alloc (.cells z32 33)) (by kernel_rfl) ?_)
    | ((with_reducible refine at_slot none ?_); refine wpList_store_mid rfl 33 (.tmp 3) (.tmp 9) rfl W1.heap.size 0 (byteCells l).toArray rfl rfl (by exact hC.out.there W1) (by exact hC.out.size) (by exact hC.out.one) ?_; generalize hW : World.setCells _ _ _ _ = W2; obtain ⟨hN, hb⟩ := hC.out.new hW; have hZ2 := hid (hZ1.out.below hb hZ1.out.lt); have hB2 := hid (below_up hb hB1.out); have hX2 := hid hN; clear hb hZ1 hB1 hN; clear hW)
    | ((with_reducible refine at_slot (some 11) ?_); refine wpList_load_mid rfl 33 (.tmp 3) rfl W1.heap.size 0 rfl (byteCells l) _ (by exact h_all hX2.out) Try.underlying33 rfl (by exact hC2.out) ?_)
    | ((with_reducible refine at_slot none ?_); refine wpList_store_mid rfl 33 (.tmp 2) (.tmp 11) rfl w.heap.size 0 (byteCells l).toArray rfl rfl (by exact hZ2.out.there 0 _ (by rw [List.size_toArray, hC.out.len]; decide)) (by exact hC.out.size) (by exact hC.out.one) ?_; generalize hW9 : World.setCells _ _ _ _ = W9; have hZ9 := hid (Holds.over hZ2.out (by rw [hC.out.len]; rfl) hW9); have hB9 := hid (below_put hB2.out (Nat.le_refl _) hW9); clear hW9)
    | fail)
  exact bodyPost_ret (results_cell_row rfl _ _ w.heap.size 33 _ (0, 0) _ rfl hZ9.out Try.underlying33 rfl (by exact hC.out.size)) rfl ⟨rfl, hB9.out⟩

/-- The cells of a row of objects. -/
def rowOb (m : Obs) : List Value := m.flatMap obCells
/-- The document's store in memory: its block r, its row at B or above. -/
def RStoreAt (w : World) (B r most : Nat) (m : Obs) : Prop := ∃ A c, Holds w r 82 [.int .i64 (most : Int), .slice A m.length c] ∧ w.ownsRow B 85 33 (.slice A m.length c) m.length (rowOb m) ∧ ObOk m ∧ most ≤ 1024 ∧ m.length ≤ most
theorem rown_on {w w' : World} {n0 c k sz : Nat} {A : Option Addr} {t : TypeId} {cs : List Value} (h : w.ownsRow n0 t sz (.slice A k c) k cs) (hb : Below w.heap.size w w') : w'.ownsRow n0 t sz (.slice A k c) k cs := by
  have hlt := h.lt
  obtain ⟨h1, h2 | ⟨g, cap, cur, hv, hB, hh, rest⟩⟩ := h
  · exact ⟨h1, .inl h2⟩
  · refine ⟨h1, .inr ⟨g, cap, cur, hv, hB, ?_, rest⟩⟩
    rw [hb.block g (hlt g (by rw [hv]; rfl)).2]
    exact hh
theorem RStoreAt.on {w w' : World} {B r most : Nat} {m : Obs} (h : RStoreAt w B r most m) (hb : Below w.heap.size w w') : RStoreAt w' B r most m := by
  obtain ⟨A, c, h1, h2, h3⟩ := h
  exact ⟨A, c, h1.below hb h1.lt, rown_on h2 hb, h3⟩
/-- All that is no row of objects, but for block r, is as it was. -/
def KeepO (r : Nat) (w w' : World) : Prop := w.heap.size ≤ w'.heap.size ∧ ∀ i o, w.heap[i]? = some o → i ≠ r → (∀ cs fr, o ≠ .cells cs 85 fr) → w'.heap[i]? = some o
theorem KeepO.refl (r : Nat) (w : World) : KeepO r w w := ⟨Nat.le_refl _, fun _ _ h _ _ => h⟩
theorem KeepO.trans {r : Nat} {a b c : World} (h : KeepO r a b) (k : KeepO r b c) : KeepO r a c := ⟨Nat.le_trans h.1 k.1, fun i o hi hr ho => k.2 i o (h.2 i o hi hr ho) hr ho⟩
theorem KeepO.of {r : Nat} {w w' : World} (h : Below w.heap.size w w') : KeepO r w w' := ⟨h.size, fun i _ hi _ _ => (h.block i (Array.getElem?_eq_some_iff.1 hi).1).trans hi⟩
theorem KeepO.holds {r : Nat} {w w' : World} (h : KeepO r w w') {g : Nat} {t : TypeId} {cs : List Value} (hh : Holds w g t cs) (hr : g ≠ r) (ht : t ≠ 85) : Holds w' g t cs := h.2 g _ hh hr (fun cs fr e => by injection e with _ e2; exact ht e2)
theorem KeepO.store {r : Nat} {w w' : World} (h : KeepO r w w') {s b most : Nat} {m : Obs} (hh : StoreAt w s b most m) (hr : s ≠ r) (hb : b ≠ r) : StoreAt w' s b most m := by
  obtain ⟨h1, ⟨es, clock, h2, h3⟩, h4⟩ := hh
  exact ⟨h.holds h1 hr (by decide), ⟨es, clock, h.2 b _ h2 hb (fun cs fr e => by cases e), h3⟩, h4⟩

end Go.Proofs.Ytpjfhbmegabafaa
namespace Go.Proofs.Ytpjfhbmegabafaa
open Go.RowKit
open Go.Lib (strCells strCells_length strCells_oneCell)
attribute [local irreducible] Sha.compress Sha.blocks Sha.sha Sha.pad

end Go.Proofs.Ytpjfhbmegabafaa
namespace Go.Proofs.Ytpjfhbmegabafaa
open Go.RowKit
open Go.Lib (strCells strCells_length strCells_oneCell)
attribute [local irreducible] Sha.compress Sha.blocks Sha.sha Sha.pad

theorem rown_apart {w : World} {n0 c k sz q : Nat} {A : Option Addr} {t t' : TypeId} {cs cs' : List Value} (h : w.ownsRow n0 t sz (.slice A k c) k cs) (hq : Holds w q t' cs') (ht : t' ≠ t) : (Value.slice A k c).ownBlock ≠ some q := by
  intro e
  obtain ⟨h1, ⟨hv, _⟩ | ⟨g, cap, cur, hv, hB, hh, rest⟩⟩ := h
  · rw [hv] at e; cases e
  · rw [hv] at e
    have e1 : g = q := Option.some.inj e
    subst e1
    unfold Holds at hq
    rw [hh] at hq
    have := Option.some.inj hq
    injection this with e2 e3
    exact ht e3.symm
theorem RStoreAt.far {w W : World} {B r most g o : Nat} {t : TypeId} {cs vs : List Value} {m : Obs} (h : RStoreAt w B r most m) (hg : Holds w g t cs) (ht : t ≠ 85) (hr : r ≠ g) (e : w.setCells g o vs = W) : RStoreAt W B r most m := by
  obtain ⟨A, c, h1, h2, h3⟩ := h
  exact ⟨A, c, holds_far h1 hr e, row_far h2 (rown_apart h2 hg ht) e, h3⟩
theorem KeepO.far {r g o : Nat} {a w W : World} {vs : List Value} (h : KeepO r a w) (hg : a.heap.size ≤ g) (e : w.setCells g o vs = W) : KeepO r a W := by
  subst e
  have hb := below_setCells (Below.refl g w) g o vs (Nat.le_refl _)
  exact ⟨Nat.le_trans h.1 hb.size, fun i x hi hr hx => (hb.block i (Nat.lt_of_lt_of_le (Array.getElem?_eq_some_iff.1 hi).1 hg)).trans (h.2 i x hi hr hx)⟩
theorem KeepO.own {r g o : Nat} {a w W : World} {vs : List Value} (h : KeepO r a w) (hg : g = r) (e : w.setCells g o vs = W) : KeepO r a W := by
  subst e
  have hb := below_setCells (Below.refl 0 w) g o vs (Nat.zero_le _)
  exact ⟨Nat.le_trans h.1 hb.size, fun i x hi hr hx => (setCells_far w g o vs i (by rw [hg]; exact hr)).trans (h.2 i x hi hr hx)⟩
theorem KeepO.grown {r n0 c k : Nat} {A : Option Addr} {w W : World} {cs : List Value} (h : w.ownsRow n0 85 33 (.slice A k c) k cs) (hg : w.grownBy W (Value.slice A k c).ownBlock) : KeepO r w W := by
  refine ⟨hg.size, fun i x hi _ hx => (hg.block i (Array.getElem?_eq_some_iff.1 hi).1 (fun e => ?_)).trans hi⟩
  obtain ⟨h1, ⟨hv, _⟩ | ⟨g, cap, cur, hv, hB, hh, rest⟩⟩ := h
  · rw [hv] at e; cases e
  · rw [hv] at e
    have e1 : i = g := Option.some.inj e
    subst e1
    rw [hh] at hi
    exact hx _ _ (Option.some.inj hi).symm
end Go.Proofs.Ytpjfhbmegabafaa
namespace Go.Proofs.Ytpjfhbmegabafaa
open Go.RowKit
open Go.Lib (strCells strCells_length strCells_oneCell)
attribute [local irreducible] Sha.compress Sha.blocks Sha.sha Sha.pad

end Go.Proofs.Ytpjfhbmegabafaa
namespace Go.Proofs.Ytpjfhbmegabafaa
open Go.RowKit
open Go.Lib (strCells strCells_length strCells_oneCell)
attribute [local irreducible] Sha.compress Sha.blocks Sha.sha Sha.pad

theorem rObjH {d : ByteArray} {l : List UInt8} (e : obHash d = l) (hd : d.size ≤ 65536) (w : World) : Calls Try.prog 17 #[.string d] w fun e w' => e = .returned (.agg (byteCells l).toArray) ∧ Below w.heap.size w w' := by
  have := rObject_any d (by omega) w
  rw [show objAns d = obHash d from if_pos hd, e] at this
  exact this
end Go.Proofs.Ytpjfhbmegabafaa
namespace Go.Proofs.Ytpjfhbmegabafaa
open Go.RowKit

theorem errNum_any (x : Int) (w : World) : Calls Try.prog 13 #[.int .i64 x] w fun e w' => e = .returned (.int .i64 x) ∧ w = w' := by
  go_enter Try.func13, Try.ntmps13
  go_wp2
  go_ret
  exact ⟨rfl, rfl⟩

end Go.Proofs.Ytpjfhbmegabafaa
namespace Go.Proofs.Ytpjfhbmegabafaa
open Go.RowKit
open Go.Lib (strCells strCells_length strCells_oneCell)
attribute [local irreducible] Sha.compress Sha.blocks Sha.sha Sha.pad

end Go.Proofs.Ytpjfhbmegabafaa
namespace Go.Proofs.Ytpjfhbmegabafaa
open Go.RowKit

end Go.Proofs.Ytpjfhbmegabafaa
namespace Go.Proofs.Ytpjfhbmegabafaa
open Go.RowKit
open Go.Lib (strCells strCells_length strCells_oneCell)
attribute [local irreducible] Sha.compress Sha.blocks Sha.sha Sha.pad

end Go.Proofs.Ytpjfhbmegabafaa
namespace Go.Proofs.Ytpjfhbmegabafaa
open Go.RowKit
attribute [local irreducible] Sha.compress Sha.blocks Sha.sha Sha.pad

theorem txt_ne {s t : ByteArray} (h : s ≠ t) : (s.toList == t.toList) = false := beq_eq_false_iff_ne.2 fun e => h (bytes_ext (by rw [← Lib.toList_data, ← Lib.toList_data, e]))
set_option maxRecDepth 100000 in
set_option maxHeartbeats 1000000 in
theorem once_any (B : Nat) (A : Option Addr) (n c : Nat) (xs : List ByteArray) (x : ByteArray) (w : World) (h : w.ownsRow B 9 1 (.slice A n c) n (strs xs)) (hB : B ≤ w.heap.size) (hn : n ≤ 100000) :
    Calls Try.prog 46 #[.slice A n c, .string x] w fun e w' => ∃ A' m c', e = .returned (.slice A' m c') ∧ w'.ownsRow B 9 1 (.slice A' m c') m (strs (addT xs x)) ∧ w.grownBy w' (Value.slice A n c).ownBlock ∧ Fresh w (Value.slice A n c).ownBlock (Value.slice A' m c').ownBlock := by
  obtain ⟨b, hA, hT, -, -, hlen⟩ := own_txts h
  have h' := hid h
  have hB' := hid hB
  have hn' := hid hn
  have hA' := hid hA
  have hT' := hid hT
  have hl' := hid hlen
  clear h hB hn hA hT hlen
  go_enter Try.func46, Try.ntmps46
  go_wp2_with fail
  go_loopw [5] (fun i wr => ∃ k : Nat, k ≤ n ∧ i = .int .i64 (k : Int) ∧ wr = w ∧ ∀ j, j < k → xs[j]? ≠ some x) (fun i _ => n - (intOf i).toNat)
  case atStart => exact ⟨0, Nat.zero_le _, rfl, rfl, fun j hj => by omega⟩
  case round =>
    obtain ⟨k, hkn, rfl, rfl, hk⟩ := hrel
    by_cases hlt : k < n
    · have hki : (k : Int) < (n : Int) := by omega
      obtain rfl := hA'.out (by omega)
      have hxk := List.getElem?_eq_getElem (l := xs) (i := k) (by have := hl'.out; omega)
      obtain ⟨y, hy⟩ : ∃ y, xs[k]'(by have := hl'.out; omega) = y := ⟨_, rfl⟩
      rw [hy] at hxk
      have hcell := (hT'.out (by omega)).cell hxk
      have u2 := IntWalk.i64_in ((k : Int) + 1) (by have := hn'.out; omega)
      by_cases he : y = x
      · have hb : (y.toList == x.toList) = true := by rw [he]; exact beq_self_eq_true _
        have hm := hid (show x ∈ xs from by rw [← he]; exact List.mem_of_getElem? hxk)
        clear hy hxk hk
        go_wp2_with fail
        go_ret
        exact ⟨_, _, _, rfl, by rw [addT_old hm.out]; exact h'.out, ⟨rfl, rfl, rfl, Nat.le_refl _, fun _ _ _ => rfl⟩, .inl rfl⟩
      · have hb := txt_ne he
        have hk2 := hid (show ∀ j, j < k + 1 → xs[j]? ≠ some x from fun j hj => by
          by_cases e : j = k
          · rw [e, hxk]; intro e2; exact he (Option.some.inj e2)
          · exact hk j (by omega))
        clear hy hxk hk
        go_wp2_with fail
        go_roundw
        case rel => exact ⟨k + 1, hlt, rfl, trivial, hk2.out⟩
        case measure => simp only [intOf]; omega
    · have hki : ¬ (k : Int) < (n : Int) := by omega
      obtain rfl : k = n := by omega
      have hm := hid (show x ∉ xs from fun hx => by
        obtain ⟨j, hj, e⟩ := List.mem_iff_getElem.1 hx
        exact hk j (by have := hl'.out; omega) (by rw [List.getElem?_eq_getElem hj, e]))
      clear hk
      go_wp2_with (first
        | ((with_reducible refine at_slot (some 21) ?_); refine wpList_pushTextF rfl rfl (.tmp 20) (.tmp 19) (.tmp 21) rfl rfl B A k c xs x rfl rfl rfl (by have := hn'.out; omega) (by exact h'.out) (by exact hB'.out) _ rfl ?_; intro A2 c2 W2 hrow hgr hfr; have hrow' := hid hrow; have hgr' := hid hgr; have hfr' := hid hfr; clear hrow hgr hfr)
        | fail)
      go_ret
      exact ⟨_, _, _, rfl, by rw [addT_new hm.out]; exact hrow'.out, hgr'.out, hfr'.out⟩

theorem txt_join {L l : List UInt8} : (⟨L.toArray⟩ : ByteArray) ++ txt l = ⟨(L ++ l).toArray⟩ := bytes_ext (by rw [ByteArray.data_append, Array.toList_append, txt_list])
set_option maxRecDepth 100000 in
set_option maxHeartbeats 1000000 in
theorem refRow_any (mark : ByteArray) (hm : mark.size ≤ 10) (A : Option Addr) (n c : Nat) (hs : List (List UInt8)) (w : World) (hH : Hashs w w.heap.size A n hs) (hn : n ≤ 255) :
    Calls Try.prog 47 #[.string mark, .slice A n c] w fun e w' => e = .returned (.string (nodeB mark hs)) ∧ Below w.heap.size w w' := by
  have hlen := hid hH.len
  have hn' := hid hn
  have hH' := hid hH
  obtain ⟨t0, ht0⟩ : ∃ t, mark ++ be 1 n = t := ⟨_, rfl⟩
  have hts : t0.size ≤ 20 := by rw [← ht0, ByteArray.size_append, be_size]; omega
  have hBe := hid (fun V => show Calls Try.prog 63 #[.int .i64 (n : Int), .int .i64 1] V fun e w' => e = .returned (.string (be 1 n)) ∧ Below V.heap.size V w' from Be_any (n : Int) 1 1 rfl (by decide) n rfl (by omega) V)
  obtain ⟨bn, hbn⟩ : ∃ t, be 1 n = t := ⟨_, rfl⟩
  have hbs : bn.size = 1 := by rw [← hbn]; exact be_size ..
  rw [hbn] at hBe ht0
  have hsum : ¬ 9223372036854775807 < mark.size + bn.size := by omega
  have hfin := hid (show nodeB mark hs = ⟨(t0.data.toList ++ hs.flatten).toArray⟩ from by unfold nodeB nodeL; rw [hlen.out, hbn, ht0])
  have ht0' := hid ht0
  have hfl := hid (fun (k : Nat) => show (⟨(t0.data.toList ++ (hs.take k).flatten).toArray⟩ : ByteArray).size ≤ 10000 from by
    show (t0.data.toList ++ (hs.take k).flatten).toArray.size ≤ 10000
    rw [List.size_toArray, List.length_append, data_length, flat_len (fun x hx => hH'.out.2 x (List.mem_of_mem_take hx)), List.length_take, hlen.out]
    omega)
  clear hH hn hts hbn ht0
  go_enter Try.func47, Try.ntmps47
  go_wp2_with (first
    | (go_at_call 63; refine (hBe.out w).mono ?_; rintro e W1 ⟨rfl, hb⟩; have hB1 := hid hb; clear hb)
    | fail)
  go_loopw [5, 6] (fun s ix wr => ∃ i : Nat, i ≤ n ∧ ix = .int .i64 (i : Int) ∧ s = .string ⟨(t0.data.toList ++ (hs.take i).flatten).toArray⟩ ∧ Below w.heap.size w wr) (fun _ ix _ => n - (intOf ix).toNat)
  case atStart => exact ⟨0, Nat.zero_le _, rfl, by rw [ht0'.out, List.take_zero, List.flatten_nil, List.append_nil], hB1.out⟩
  case round =>
    obtain ⟨i, hi, rfl, rfl, hB⟩ := hrel
    obtain ⟨W10, rfl⟩ : ∃ V, V = wr := ⟨_, rfl⟩
    have hB10 := hid hB
    clear hB hB1 hBe hsum
    by_cases hlt : i < n
    · have hlt' : (i : Int) < (n : Int) := by omega
      have s3 : (0 : Int) ≤ (i : Int) := by omega
      have hiw := IntWalk.i64_in ((i : Int) + 1) (by have := hn'.out; omega)
      obtain ⟨p, x, rfl, hpb, -, hix, hx32, hcx⟩ := (hH'.out.below hB10.out).get hlt
      have hcx' := hid hcx
      have hC := hid (hash_cells x hx32)
      have hC2 := hid (show (Try.prog.info? 33).map (·.size) = some (byteCells x).length from by have := hC.out.size; rwa [List.size_toArray] at this)
      have hnx := hid (flat_next hix)
      have hTx := hid (fun V => tT_any x hx32 V)
      obtain ⟨tx, htx⟩ : ∃ t, txt x = t := ⟨_, rfl⟩
      rw [htx] at hTx
      obtain ⟨S, hS⟩ : ∃ s, (⟨(t0.data.toList ++ (hs.take i).flatten).toArray⟩ : ByteArray) = s := ⟨_, rfl⟩
      have hz : ¬ 9223372036854775807 < S.size + tx.size := by
        have h1 := hfl.out i
        have h2 : tx.size = 32 := by rw [← htx, txt_size, hx32]
        rw [hS] at h1
        omega
      have hjo := hid (show S ++ tx = ⟨(t0.data.toList ++ (hs.take (i + 1)).flatten).toArray⟩ from by rw [hnx.out, ← List.append_assoc, ← txt_join, hS, htx])
      rw [hS]
      clear hcx hpb hix hx32 hS htx
      go_wp2_with (first
        | ((with_reducible refine at_slot (some 22) ?_); refine wpList_load_any rfl 33 (.tmp 21) rfl (p.add (i * 32)) rfl (byteCells x) _ (by exact hcx'.out) Try.underlying33 rfl (by exact hC2.out) ?_)
        | (go_at_call 35; refine (hTx.out W10).mono ?_; rintro e W11 ⟨rfl, hb⟩; have hB11 := hid (hB10.out.trans (hb.mono hB10.out.size)); clear hb)
        | fail)
      go_roundw
      case rel => exact ⟨i + 1, by omega, by go_num, by rw [hjo.out], hB11.out⟩
      case measure => simp only [intOf]; omega
    · obtain rfl : i = n := by omega
      have hlt' : ¬ (i : Int) < (i : Int) := by omega
      have hta := hid (show hs.take i = hs from List.take_of_length_le (by rw [hlen.out]; exact Nat.le_refl _))
      go_wp2_with fail
      go_ret
      exact ⟨by rw [hfin.out, hta.out]; rfl, hB10.out⟩

end Go.Proofs.Ytpjfhbmegabafaa
