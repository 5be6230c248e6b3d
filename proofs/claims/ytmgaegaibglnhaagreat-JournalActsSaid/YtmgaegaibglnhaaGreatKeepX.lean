/- What a body of a range over a function leaves alone, told by its own blocks: the iterator may have blocks of its own. No function of the program is named here. -/
import Derived.Test.YtmgaegaibglnhaaGreatInOps
namespace Go.Proofs.YtmgaegaibglnhaaGreat
open Go.RowKit

/-- What a body of a range over a function leaves alone: every block of cells but its own (X). -/
def KeepX (X : Nat → Prop) (W W' : World) : Prop := W.heap.size ≤ W'.heap.size ∧ ∀ k o, W.heap[k]? = some o → o.isCells = true → ¬ X k → W'.heap[k]? = some o

section
variable {X : Nat → Prop} {A B C : World}
theorem KeepX.refl (X : Nat → Prop) (W : World) : KeepX X W W := ⟨Nat.le_refl _, fun _ _ h _ _ => h⟩
theorem KeepX.trans (h : KeepX X A B) (k : KeepX X B C) : KeepX X A C := ⟨Nat.le_trans h.1 k.1, fun i o hi ho hx => k.2 i o (h.2 i o hi ho hx) ho hx⟩
theorem KeepX.put (W : World) (l : Nat) (o o' : Obj) (hl : W.heap[l]? = some o) (ho : o.isCells = false) : KeepX X W (W.putObj l o') := by
  refine ⟨by simp, fun k p hk hp _ => ?_⟩
  by_cases h : k = l
  · subst h
    rw [hl] at hk
    obtain rfl := Option.some.inj hk
    rw [ho] at hp
    cases hp
  · rw [World.putObj_heap_other (by omega)]
    exact hk
theorem KeepX.below (h : Below A.heap.size A B) : KeepX X A B := ⟨h.size, fun k _ hk _ _ => (h.block k (Array.getElem?_eq_some_iff.1 hk).1).trans hk⟩
theorem KeepX.grown {a : Nat} (ha : X a) (h : A.grownBy B (some a)) : KeepX X A B := ⟨h.size, fun k o hk _ hx => (h.block k (Array.getElem?_eq_some_iff.1 hk).1 (fun e => hx (by have := Option.some.inj e; rw [this]; exact ha))).trans hk⟩
theorem KeepX.more {Y : Nat → Prop} (h : KeepX X A B) (hXY : ∀ k, X k → Y k) : KeepX Y A B := ⟨h.1, fun k o hk ho hy => h.2 k o hk ho (fun hx => hy (hXY k hx))⟩
theorem KeepX.block {g : Nat} {cs : Array Value} {t : TypeId} {fz : Nat × Nat} (h : KeepX X A B) (hg : A.heap[g]? = some (.cells cs t fz)) (hx : ¬ X g) : B.heap[g]? = some (.cells cs t fz) := h.2 g _ hg rfl hx
theorem KeepX.holds {g : Nat} {t : TypeId} {cs : List Value} (h : KeepX X A B) (hh : Holds A g t cs) (hx : ¬ X g) : Holds B g t cs := h.block hh hx
theorem KeepX.cell {p : Addr} {v : Value} (h : KeepX X A B) (hp : A.cell? p = some v) (hx : ¬ X p.block) : B.cell? p = some v := by
  cases hb : A.heap[p.block]? with
  | none => simp [World.cell?, hb] at hp
  | some o =>
    cases o with
    | cells cs t fz => rw [← hp]; exact World.cell?_of_block ((h.block hb hx).trans hb.symm)
    | _ => simp [World.cell?, hb] at hp
theorem KeepX.row {base n size : Nat} {e : TypeId} {v : Value} {xs : List Value} (h : KeepX X A B) (hr : A.ownsRow base e size v n xs) (hx : ∀ g, v.ownBlock = some g → ¬ X g) : B.ownsRow base e size v n xs := by
  obtain ⟨hl, h0 | ⟨g, cap, cur, rfl, hg, hb, h1, h2, h3, h4⟩⟩ := hr
  · exact ⟨hl, .inl h0⟩
  · exact ⟨hl, .inr ⟨g, cap, cur, rfl, hg, h.block hb (hx g rfl), h1, h2, h3, h4⟩⟩
end

end Go.Proofs.YtmgaegaibglnhaaGreat
