/- More words on memory: whole arrays in composite literals. No function of the program is named here. -/
import Derived.Test.YtmgaegaibglnhaaGreatBytes
namespace Go.Proofs.YtmgaegaibglnhaaGreat
open Go.RowKit
open Go.Lib (strCells strCells_length strCells_oneCell)

theorem foldl_place (l : List Value) (o : Nat) (Z : Array Value) (h : o + l.length ≤ Z.size) :
    (l.zipIdx o).foldl (fun cs p => cs.setIfInBounds p.2 p.1) Z = (put Z.toList o l).toArray := by
  induction l generalizing o Z with
  | nil => simp [put]
  | cons v l ih =>
    have h' : o + (l.length + 1) ≤ Z.size := h
    rw [List.zipIdx_cons, List.foldl_cons, ih (o + 1) _ (by rw [Array.size_setIfInBounds]; omega), Array.toList_setIfInBounds, put_cons _ _ _ _ (by rw [Array.length_toList]; omega)]

section
variable {P : Program} {ops : Array Oper} {o : Oper} {a : Act} {w : World} {Q : Exit → Act → World → Prop}

/-- A slice literal of one array (or struct) whose cells are not written out. -/
theorem run_buildSlice_one (t e : TypeId) (i : TypeInfo) (z : Value) (ht : P.underlying t = some (.slice e)) (hi : P.info? e = some i) (hz : i.zero = some z) (H : Array Value) (hn : i.size = H.size) (h0 : 0 < H.size) (h1 : H.size ≤ 1000000) :
    (Instr.buildSlice t 1 #[(0, .agg H)]).run P w = .ok (.slice (some ⟨w.heap.size, 0, none⟩) 1 1) (w.alloc (.cells H e)) := by
  have hsz : ((Array.range (1 * i.size)).map (fun x => z.cells[x % z.cells.size]!)).size = H.size := by simp [hn]
  have hf : Instr.fill (fun j => some (j * i.size, i.size)) ((Array.range (1 * i.size)).map (fun x => z.cells[x % z.cells.size]!)) [(0, Value.agg H)] = some H := by
    have hc : (Value.agg H).cells = H := rfl
    simp only [Instr.fill, hc, hn, Nat.zero_mul, Nat.zero_add]
    rw [if_neg]
    · congr 1
      rw [← Array.foldl_toList, Array.toList_zipIdx]
      have := foldl_place H.toList 0 ((Array.range (1 * H.size)).map (fun x => z.cells[x % z.cells.size]!)) (by simp)
      rw [this, put_all _ _ (by simp)]
    · simp
  have hb1 : ¬ 16777216 < H.size := by omega
  have hb0 : ¬ H.size = 0 := by omega
  unfold Instr.buildSlice
  simp [run_underlying ht, sizeOf, typeInfo, hi, hn, hb1, hb0, zeroValue, hz, newRow]
  simp [hn] at hf
  simp [hf]

theorem wpList_buildSlice_one {rest : List Oper} (hgd : o.guard = none) (t e : TypeId) (x : Operand) (ho : o.op = .buildSlice t 1 #[(0, x)]) (i : TypeInfo) (z : Value) (ht : P.underlying t = some (.slice e)) (hi : P.info? e = some i) (hz : i.zero = some z)
    (H : Array Value) (hx : a.eval x = .agg H) (hn : i.size = H.size) (h0 : 0 < H.size) (h1 : H.size ≤ 1000000) (h : wpList P ops Q rest (a.put o.dst (.slice (some ⟨w.heap.size, 0, none⟩) 1 1)) (w.alloc (.cells H e))) :
    wpList P ops Q (o :: rest) a w :=
  wpList_run hgd _ _ (by
    unfold execOp
    simp only [ho, List.map_toArray, List.map_cons, List.map_nil, hx]
    simp [run_buildSlice_one (w := w) t e i z ht hi hz H hn h0 h1]) h

/-- A new variable of an array (or struct) type: its zeros are not written out. -/
theorem wpList_alloc_row {rest : List Oper} (hgd : o.guard = none) (t : TypeId) (ho : o.op = .alloc t) (i : TypeInfo) (z : Value) (hi : P.info? t = some i) (hz : i.zero = some z) (cs : Array Value) (hcs : z.cells = cs)
    (h : wpList P ops Q rest (a.put o.dst (.pointer (some ⟨w.heap.size, 0, none⟩))) (w.alloc (.cells cs t))) : wpList P ops Q (o :: rest) a w :=
  wpList_run hgd _ _ (by
    unfold execOp
    simp only [ho]
    simp [Instr.alloc, zeroValue, typeInfo, hi, hz, newVar, newRow, hcs]) h
end

end Go.Proofs.YtmgaegaibglnhaaGreat
