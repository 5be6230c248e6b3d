/- Stores of hashes; stores elsewhere: what stays. No function of the program is named here. -/
import Derived.Test.YtmgaegaibglnhaaGreatHashR
import Derived.Deep.AppendLies
namespace Go.Proofs.YtmgaegaibglnhaaGreat
open Go.RowKit

theorem HashCells.there' {cs ds : List Value} (hc : HashCells cs) {W : World} {g : Nat} (h : Holds W g 55 ds) (hd : ds.length = 32) : W.there g 0 cs.toArray.size :=
  h.there 0 _ (by rw [List.size_toArray, hc.len, hd]; decide)

theorem HashCells.set {cs ds : List Value} (hc : HashCells cs) {w W W3 : World} {g : Nat} (h : Holds W g 55 ds) (hd : ds.length = 32) (e : W.setCells g 0 cs = W3) (hb : Below w.heap.size w W) (hg : w.heap.size ≤ g) : Holds W3 g 55 cs ∧ Below w.heap.size w W3 := by
  subst e
  have h1 := h.put 0 cs (by rw [hc.len, hd]; decide)
  rw [put_all _ _ (by rw [hc.len, hd])] at h1
  exact ⟨h1, below_setCells hb _ _ _ hg⟩

theorem cells_far (w : World) (g o : Nat) (vs : List Value) (k : Nat) (h : k ≠ g) : (w.setCells g o vs).heap[k]? = w.heap[k]? := by
  induction vs generalizing w o with
  | nil => rfl
  | cons v vs ih => exact (ih _ (o + 1)).trans (heap_setCell_other w ⟨g, o, none⟩ k v h)

theorem row_of_blocks {w w' : World} {B n size : Nat} {e : TypeId} {v : Value} {xs : List Value} (h : w.ownsRow B e size v n xs) (hb : ∀ k, v.ownBlock = some k → w'.heap[k]? = w.heap[k]?) : w'.ownsRow B e size v n xs := by
  refine ⟨h.1, ?_⟩
  rcases h.2 with hn | ⟨q, cap, cur, hv, hb', hq, rest⟩
  · exact .inl hn
  · exact .inr ⟨q, cap, cur, hv, hb', (hb q (by rw [hv]; rfl)).trans hq, rest⟩

theorem wp_run {P : Program} {o : Oper} {a : Act} {w : World} {K : Act → World → Prop} {Q : Exit → Act → World → Prop} (v : Value) (w' : World) (hrun : (execOp a.eval o).run P w = .ok (.value v) w') (h : K (a.put o.dst v) w') : o.wp P a w K Q := by
  unfold Oper.wp
  rw [hrun, Oper.upon_value]
  exact h

theorem holds_far {w W : World} {g b o : Nat} {t : TypeId} {cs vs : List Value} (h : Holds w g t cs) (hg : g ≠ b) (e : w.setCells b o vs = W) : Holds W g t cs := by
  subst e
  exact h.fars b o vs hg

theorem row_far {w W : World} {B n size b o : Nat} {e : TypeId} {v : Value} {xs vs : List Value} (h : w.ownsRow B e size v n xs) (hne : v.ownBlock ≠ some b) (he : w.setCells b o vs = W) : W.ownsRow B e size v n xs := by
  subst he
  exact row_of_blocks h fun k hk => cells_far _ _ _ _ _ fun h => hne (by rw [hk, h])

theorem below_put {a w W : World} {B b o : Nat} {vs : List Value} (h : Below B a w) (hb : B ≤ b) (e : w.setCells b o vs = W) : Below B a W := by
  subst e
  exact below_setCells h b o vs hb
theorem Holds.over {W W3 : World} {g : Nat} {t : TypeId} {cs ds : List Value} (h : Holds W g t ds) (hl : cs.length = ds.length) (e : W.setCells g 0 cs = W3) : Holds W3 g t cs := by
  subst e
  have h1 := h.put 0 cs (by rw [hl]; omega)
  rw [put_all _ _ hl] at h1
  exact h1


end Go.Proofs.YtmgaegaibglnhaaGreat
