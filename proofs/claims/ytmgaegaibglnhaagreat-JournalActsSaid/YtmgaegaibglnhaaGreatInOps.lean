/- Loads and stores of whole rows in a walk inside a fence (a range over a function). No function of the program is named here. -/
import Derived.Test.YtmgaegaibglnhaaGreatTagP
import Derived.Deep.MidRow
import Derived.OwnWalkIn
import Derived.RangeFuncNested
import Derived.RangeFuncBound
import Derived.RangeFuncCalls
import Derived.RangeFuncLeaves
import Derived.Shelf.Abstract
import Derived.Shelf.RegionOpen
import Derived.WalkKit
import Derived.TacticsInMore
import Derived.LoopNIn
import Derived.LoopIn
namespace Go.Proofs.YtmgaegaibglnhaaGreat
open Go.RowKit

section
variable {F : Fence} {n : Nat} {P : Program} {w : World} {ops : Array Oper} {rest : List Oper} {o : Oper} {a : Act} {Q : Exit → Act → World → Prop}

theorem at_slotIn (d : Option Nat) {op : Op} {ty : TypeId} {pos : String} {after : Array Edge} {gd : Option (Nat × Bool)} (h : wpListIn F n P ops Q (⟨d, op, ty, pos, after, gd⟩ :: rest) a w) : wpListIn F n P ops Q (⟨d, op, ty, pos, after, gd⟩ :: rest) a w := h

theorem wpListIn_run (hg : o.guard = none) (hd : ∀ c, o.op ≠ .defer c) (ha : o.about P w a.eval = none) (v : Value) (w' : World) (hrun : (execOp a.eval o).run P w = .ok (.value v) w') (h : wpListIn F n P ops Q rest (a.put o.dst v) w') : wpListIn F n P ops Q (o :: rest) a w :=
  wpListIn_plain hg fun K hK => by
    unfold Oper.wpIn
    refine ⟨fun f hf => (by rw [ha] at hf; cases hf), ?_⟩
    rw [Oper.semAt_plain F _ _ hd, hrun]
    exact hK _ _ h

theorem wpListIn_load_mid (hg : o.guard = none) (ty : TypeId) (x : Operand) (ho : o.op = .load ty x)
    (b f : Nat) (hx : a.eval x = .pointer (some ⟨b, f, none⟩)) (cs : List Value) (d : TypeDesc) (hc : w.rangeAt b f cs)
    (hu : P.underlying ty = some d) (hd : d.isRow = true) (hi : (P.info? ty).map (·.size) = some cs.length)
    (h : wpListIn F n P ops Q rest (a.put o.dst (.agg cs.toArray)) w) : wpListIn F n P ops Q (o :: rest) a w := by
  refine wpListIn_run hg (fun c e => by rw [ho] at e; cases e) (by simp [Oper.about, ho]) _ _ ?_ h
  unfold execOp
  simp only [ho, hx, Instr.loadAt, Instr.sureAddr, Sem.run_bind, Sem.run_pure, Result.andThen_ok, run_loadVar_mid w b f ty cs d hc hu hd hi]

theorem wpListIn_store_mid (hg : o.guard = none) (ty : TypeId) (x y : Operand) (ho : o.op = .store ty x y)
    (b f : Nat) (cells : Array Value) (hx : a.eval x = .pointer (some ⟨b, f, none⟩)) (hy : a.eval y = .agg cells)
    (ht : w.there b f cells.size) (hi : (P.info? ty).map (·.size) = some cells.size) (h1 : cells.all (·.oneCell') = true)
    (h : wpListIn F n P ops Q rest (a.put o.dst undef) (w.setCells b f cells.toList)) : wpListIn F n P ops Q (o :: rest) a w :=
  wpListIn_plain hg fun K hK => by
    unfold Oper.wpIn
    refine ⟨fun g hf => by simp [Oper.about, ho] at hf, ?_⟩
    rw [Oper.semAt_plain F _ _ (fun c e => by rw [ho] at e; cases e)]
    unfold execOp
    simp only [ho, hx, hy, Instr.storeAt, Instr.sureAddr, Sem.run_bind, Sem.run_pure, Result.andThen_ok, run_storeVar_mid w b f ty cells ht hi h1]
    exact hK _ _ h
end

/-- All blocks below n but one lie as they lay. -/
def KeepB (n a : Nat) (W W' : World) : Prop := W.heap.size ≤ W'.heap.size ∧ ∀ k, k < n → k ≠ a → W'.heap[k]? = W.heap[k]?

section
variable {n a : Nat} {A B C : World}
theorem KeepB.refl (n a : Nat) (W : World) : KeepB n a W W := ⟨Nat.le_refl _, fun _ _ _ => rfl⟩
theorem KeepB.trans (h : KeepB n a A B) (k : KeepB n a B C) : KeepB n a A C := ⟨Nat.le_trans h.1 k.1, fun i hi ha => (k.2 i hi ha).trans (h.2 i hi ha)⟩
theorem KeepB.cell (h : KeepB n a A B) {p : Addr} (hp : p.block < n) (ha : p.block ≠ a) : B.cell? p = A.cell? p := World.cell?_of_block (w := A) (h.2 p.block hp ha)
theorem KeepB.below (hn : n ≤ A.heap.size) (h : Below A.heap.size A B) : KeepB n a A B := ⟨h.size, fun k hk _ => h.block k (by omega)⟩
theorem KeepB.grown (hn : n ≤ A.heap.size) (h : A.grownBy B (some a)) : KeepB n a A B := ⟨h.size, fun k hk ha => h.block k (by omega) (fun e => ha (Option.some.inj e))⟩
theorem KeepB.put (hn : n ≤ C.heap.size) (W : World) (l : Nat) (o o' : Obj) (hl : C.heap.size ≤ l) (_ : W.heap[l]? = some o) (_ : o.isCells = false) (_ : o.isWalk = false) : KeepB n a W (W.putObj l o') :=
  ⟨by simp, fun k hk _ => World.putObj_heap_other (by omega)⟩
theorem KeepB.range (h : KeepB n a A B) {b o : Nat} {cs : List Value} (hb : b < n) (ha : b ≠ a) (hc : A.rangeAt b o cs) : B.rangeAt b o cs := fun j v hv => (h.cell (p := ⟨b, o + j, none⟩) hb ha).trans (hc j v hv)
end

theorem holds_kept {W W' : World} {row : Option Nat} {g : Nat} {t : TypeId} {cs : List Value} (h : Holds W g t cs) (hg : W.grownBy W' row) (hrow : ∀ r, row = some r → ∃ o : Obj, W.heap[r]? = some o ∧ o.isCells = false) : Holds W' g t cs := by
  refine h.grown hg ?_
  rintro rfl
  obtain ⟨o, ho, hc⟩ := hrow g rfl
  unfold Holds at h
  rw [h] at ho
  obtain rfl := Option.some.inj ho
  cases hc

end Go.Proofs.YtmgaegaibglnhaaGreat
