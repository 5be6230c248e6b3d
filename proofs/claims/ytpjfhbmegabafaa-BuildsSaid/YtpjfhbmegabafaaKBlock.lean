/- A block of memory that is known whole: what stores, new blocks and draws make of it. No function of the program is named here. -/
import Derived.Test.YtpjfhbmegabafaaKYields
import Derived.Deep.MidRow
namespace Go.Proofs.Ytpjfhbmegabafaa
open Go.RowKit

/-- Block g holds just these cells, of element type t; none is frozen. -/
def Holds (w : World) (g : Nat) (t : TypeId) (cs : List Value) : Prop := w.heap[g]? = some (.cells cs.toArray t (0, 0))

/-- vs in the place of what stood from o on. -/
def put (cs : List Value) (o : Nat) (vs : List Value) : List Value := cs.take o ++ vs ++ cs.drop (o + vs.length)

theorem put_cons (cs : List Value) (o : Nat) (v : Value) (vs : List Value) (h : o + (vs.length + 1) ≤ cs.length) : put (cs.set o v) (o + 1) vs = put cs o (v :: vs) := by
  unfold put
  have h1 : (cs.set o v).take (o + 1) = cs.take o ++ [v] := by
    rw [List.take_succ_eq_append_getElem (by simp; omega), List.take_set_of_le (Nat.le_refl _)]
    simp
  have h2 : (cs.set o v).drop (o + 1 + vs.length) = cs.drop (o + (vs.length + 1)) := by
    rw [List.drop_set_of_lt (by omega)]
    congr 1
    omega
  rw [h1, h2]
  simp

section
variable {w w' : World} {g : Nat} {t : TypeId} {cs : List Value}

theorem Holds.lt (h : Holds w g t cs) : g < w.heap.size := by
  rcases Nat.lt_or_ge g w.heap.size with h1 | h1
  · exact h1
  · unfold Holds at h
    rw [Array.getElem?_eq_none h1] at h
    cases h

theorem Holds.cell (h : Holds w g t cs) (i : Nat) : w.cell? ⟨g, i, none⟩ = cs[i]? := by
  rw [cell_of_row w g i cs.toArray t (0, 0) h]
  simp

theorem Holds.frozen (h : Holds w g t cs) (i : Nat) : w.frozen? ⟨g, i, none⟩ = false := frozen_of_row w g i cs.toArray t h

theorem Holds.new (w : World) (t : TypeId) (cs : Array Value) : Holds (w.alloc (.cells cs t)) w.heap.size t cs.toList := by
  unfold Holds
  rw [heap_at _ _ _ rfl]

theorem Holds.drewN (h : Holds w g t cs) (m : Nat) : Holds (w.drewN m) g t cs := h
theorem Holds.drew (h : Holds w g t cs) : Holds w.drew g t cs := h
theorem Holds.alloc (h : Holds w g t cs) (o : Obj) : Holds (w.alloc o) g t cs := heap_up _ _ _ _ h
theorem Holds.below {B : Nat} (h : Holds w g t cs) (hb : Below B w w') (hg : g < B) : Holds w' g t cs := (hb.block g hg).trans h
theorem Holds.grown {row : Option Nat} (h : Holds w g t cs) (hb : w.grownBy w' row) (hg : some g ≠ row) : Holds w' g t cs := (hb.block g h.lt hg).trans h

theorem Holds.set (h : Holds w g t cs) (i : Nat) (v : Value) : Holds (w.setCell ⟨g, i, none⟩ v) g t (cs.set i v) := by
  unfold Holds
  rw [heap_setCell_same w g i cs.toArray t v h]
  simp

theorem Holds.far (h : Holds w g t cs) (p : Addr) (hp : g ≠ p.block) (v : Value) : Holds (w.setCell p v) g t cs := (heap_setCell_other w p g v hp).trans h

theorem Holds.put (h : Holds w g t cs) (o : Nat) (vs : List Value) (hl : o + vs.length ≤ cs.length) : Holds (w.setCells g o vs) g t (put cs o vs) := by
  induction vs generalizing w cs o with
  | nil =>
    have e : Go.Proofs.Ytpjfhbmegabafaa.put cs o [] = cs := by simp [Go.Proofs.Ytpjfhbmegabafaa.put]
    rw [e]
    exact h
  | cons v vs ih =>
    have hl' : o + (vs.length + 1) ≤ cs.length := hl
    rw [← put_cons cs o v vs hl']
    exact ih (h.set o v) (o + 1) (by simp; omega)

theorem Holds.fars (h : Holds w g t cs) (b o : Nat) (vs : List Value) (hg : g ≠ b) : Holds (w.setCells b o vs) g t cs := by
  induction vs generalizing w o with
  | nil => exact h
  | cons v vs ih => exact ih (h.far _ hg v) (o + 1)

theorem Holds.range (h : Holds w g t cs) (o : Nat) (vs : List Value) (hv : ∀ j, j < vs.length → cs[o + j]? = vs[j]?) : w.rangeAt g o vs := by
  intro j v hj
  obtain ⟨hlt, _⟩ := List.getElem?_eq_some_iff.1 hj
  rw [h.cell, hv j hlt, hj]

theorem Holds.there (h : Holds w g t cs) (o n : Nat) (hn : o + n ≤ cs.length) : w.there g o n := by
  intro j hj
  refine ⟨?_, h.frozen _⟩
  rw [h.cell, List.getElem?_eq_getElem (by omega)]
  rfl
end

theorem put_all (cs vs : List Value) (h : vs.length = cs.length) : put cs 0 vs = vs := by
  unfold put
  rw [h]
  simp

/-- Stores into block g, which lies from B on. -/
theorem below_setCells {B : Nat} {a w : World} (h : Below B a w) (g o : Nat) (vs : List Value) (hg : B ≤ g) : Below B a (w.setCells g o vs) := by
  induction vs generalizing w o with
  | nil => exact h
  | cons v vs ih => exact ih (h.setCell hg v) (o + 1)

/-- Only block g, and what is new, has turned. -/
theorem only_setCell {a w : World} {g : Nat} (h : a.grownBy w (some g)) (i : Nat) (v : Value) : a.grownBy (w.setCell ⟨g, i, none⟩ v) (some g) :=
  ⟨h.os, h.tape, h.output, by simpa [World.setCell] using h.size, fun k hk hne => (heap_setCell_other w _ k v (fun e => hne (by rw [e]))).trans (h.block k hk hne)⟩

theorem only_drew {a w : World} {row : Option Nat} (h : a.grownBy w row) : a.grownBy w.drew row := ⟨h.os, h.tape, h.output, h.size, h.block⟩

theorem only_drewN {a w : World} {row : Option Nat} (h : a.grownBy w row) (m : Nat) : a.grownBy (w.drewN m) row := ⟨h.os, h.tape, h.output, h.size, h.block⟩

theorem only_setCells {a w : World} {g : Nat} (h : a.grownBy w (some g)) (o : Nat) (vs : List Value) : a.grownBy (w.setCells g o vs) (some g) := by
  induction vs generalizing w o with
  | nil => exact h
  | cons v vs ih => exact ih (only_setCell h o v) (o + 1)

theorem only_trans {a b c : World} {g : Nat} (h : a.grownBy b (some g)) (k : b.grownBy c (some g)) : a.grownBy c (some g) :=
  ⟨k.os.trans h.os, k.tape.trans h.tape, k.output.trans h.output, Nat.le_trans h.size k.size, fun i hi hne => (k.block i (Nat.lt_of_lt_of_le hi h.size) hne).trans (h.block i hi hne)⟩

theorem only_of_below {a w : World} (h : Below a.heap.size a w) (row : Option Nat) : a.grownBy w row := ⟨h.os, h.tape, h.output, h.size, fun i hi _ => h.block i hi⟩

theorem below_of_only {B g : Nat} {a b w : World} (h : Below B a b) (k : b.grownBy w (some g)) (hg : B ≤ g) (hB : B ≤ b.heap.size) : Below B a w :=
  h.grown k hB fun i e => by
    cases e
    exact hg

section
variable {P : Program} {ops : Array Oper} {o : Oper} {a : Act} {w : World} {Q : Exit → Act → World → Prop}
/-- An operation whose run is known. -/
theorem wpList_run {rest : List Oper} (hgd : o.guard = none) (v : Value) (w' : World) (hrun : (execOp a.eval o).run P w = .ok (.value v) w') (h : wpList P ops Q rest (a.put o.dst v) w') : wpList P ops Q (o :: rest) a w :=
  wpList_plain hgd fun K hK => by
    unfold Oper.wp
    rw [hrun, Oper.upon_value]
    exact hK _ _ h
end

section
variable {P : Program}
/-- 'arr[k:]' of an array variable of one-cell elements. -/
theorem run_sliceAt_from (t e : TypeId) (g o : Nat) (n k : Nat) (hk : k < n) (ht : P.underlying t = some (.array n e)) (hs : (P.info? e).map (·.size) = some 1) (w : World) :
    (Instr.sliceAt t (.pointer (some ⟨g, o, none⟩)) (some (.int .i64 (k : Int))) none none).run P w = .ok (.slice (some ⟨g, o + k, none⟩) (n - k) (n - k)) w := by
  obtain ⟨i, hi, hsz⟩ := Option.map_eq_some_iff.1 hs
  have h1 : ¬ n = k := by omega
  have h2 : k ≤ n := by omega
  have h3 : (⟨g, o, none⟩ : Addr).add k = ⟨g, o + k, none⟩ := Addr.add_mid g o k
  simp [Instr.sliceAt, run_underlying ht, Instr.sureAddr, Instr.sliceBounds, Instr.sliceBound, asIntOf, sizeOf, typeInfo, hi, hsz, h1, h2, h3]

theorem run_arrayAt (t e : TypeId) (a : Option Addr) (n len cap : Nat) (hn : n ≤ len) (ht : P.underlying t = some (.array n e)) (w : World) :
    (Instr.arrayAt t (.slice a len cap)).run P w = .ok (.pointer a) w := by
  have h : ¬ len < n := by omega
  simp [Instr.arrayAt, run_underlying ht, h]
end

end Go.Proofs.Ytpjfhbmegabafaa
