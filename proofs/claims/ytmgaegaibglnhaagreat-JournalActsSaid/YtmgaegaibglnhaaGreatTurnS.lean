/- What turns only some blocks. No function of the program is named here. -/
import Derived.Test.YtmgaegaibglnhaaGreatBytes
namespace Go.Proofs.YtmgaegaibglnhaaGreat
open Go.RowKit

/-- Of what was there only blocks of S have turned. -/
structure TurnS (S : Nat → Prop) (w w' : World) : Prop where
  os : w'.os = w.os
  tape : w'.tape = w.tape
  output : w'.output = w.output
  size : w.heap.size ≤ w'.heap.size
  block : ∀ k, k < w.heap.size → ¬ S k → w'.heap[k]? = w.heap[k]?
section
variable {S : Nat → Prop} {a b c : World} {B g : Nat}
theorem TurnS.refl (S : Nat → Prop) (a : World) : TurnS S a a := ⟨rfl, rfl, rfl, Nat.le_refl _, fun _ _ _ => rfl⟩
theorem TurnS.trans (h : TurnS S a b) (k : TurnS S b c) : TurnS S a c := ⟨k.os.trans h.os, k.tape.trans h.tape, k.output.trans h.output, Nat.le_trans h.size k.size, fun i hi hs => (k.block i (Nat.lt_of_lt_of_le hi h.size) hs).trans (h.block i hi hs)⟩
theorem TurnS.of_below (h : Below a.heap.size a b) : TurnS S a b := ⟨h.os, h.tape, h.output, h.size, fun k hk _ => h.block k hk⟩
theorem TurnS.up (h : TurnS S a b) (k : Below b.heap.size b c) : TurnS S a c := h.trans (.of_below k)
theorem TurnS.cell (h : TurnS S a b) (p : Addr) (hp : S p.block) (v : Value) : TurnS S a (b.setCell p v) :=
  ⟨h.os, h.tape, h.output, by simpa [World.setCell] using h.size, fun k hk hs => (heap_setCell_other b p k v (fun e => hs (e ▸ hp))).trans (h.block k hk hs)⟩
theorem TurnS.below (h : TurnS S a b) (hs : ∀ k, S k → B ≤ k) (hB : B ≤ a.heap.size) : Below B a b := ⟨h.os, h.tape, h.output, h.size, fun k hk => h.block k (Nat.lt_of_lt_of_le hk hB) (fun e => by have := hs k e; omega)⟩
theorem TurnS.holds {t : TypeId} {cs : List Value} (h : TurnS S a b) (hh : Holds a g t cs) (hs : ¬ S g) : Holds b g t cs := (h.block g hh.lt hs).trans hh
end

end Go.Proofs.YtmgaegaibglnhaaGreat
