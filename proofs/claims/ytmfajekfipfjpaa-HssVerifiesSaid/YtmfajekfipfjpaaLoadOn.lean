/- More words on memory: whole arrays in composite literals. No function of the program is named here.
   Whole structs and arrays, wherever their cells begin. No function of the program is named here.
   Guarded operations that are wanted; whole structs loaded so. No function of the program is named here. -/
import Derived.Test.YtmfajekfipfjpaaBytes
namespace Go.Proofs.Ytmfajekfipfjpaa
open Go.RowKit
open Go.Lib (strCells strCells_length strCells_oneCell)

theorem foldl_place (l : List Value) (o : Nat) (Z : Array Value) (h : o + l.length ≤ Z.size) :
    (l.zipIdx o).foldl (fun cs p => cs.setIfInBounds p.2 p.1) Z = (put Z.toList o l).toArray := by
  induction l generalizing o Z with
  | nil => simp [put]
  | cons v l ih =>
    have h' : o + (l.length + 1) ≤ Z.size := h
    rw [List.zipIdx_cons, List.foldl_cons, ih (o + 1) _ (by rw [Array.size_setIfInBounds]; omega), Array.toList_setIfInBounds, put_cons _ _ _ _ (by rw [Array.length_toList]; omega)]

section
variable {P : Program} {ops : Array Oper} {o : Oper} {a : Act} {w : World} {Q : Exit → Act → World → Prop}

/-- A slice literal of one array (or struct) whose cells are not written out. -/
theorem run_buildSlice_one (t e : TypeId) (i : TypeInfo) (z : Value) (ht : P.underlying t = some (.slice e)) (hi : P.info? e = some i) (hz : i.zero = some z) (H : Array Value) (hn : i.size = H.size) (h0 : 0 < H.size) (h1 : H.size ≤ 1000000) :
    (Instr.buildSlice t 1 #[(0, .agg H)]).run P w = .ok (.slice (some ⟨w.heap.size, 0, none⟩) 1 1) (w.alloc (.cells H e)) := by
  have hsz : ((Array.range (1 * i.size)).map (fun x => z.cells[x % z.cells.size]!)).size = H.size := by simp [hn]
  have hf : Instr.fill (fun j => some (j * i.size, i.size)) ((Array.range (1 * i.size)).map (fun x => z.cells[x % z.cells.size]!)) [(0, Value.agg H)] = some H := by
    have hc : (Value.agg H).cells = H := rfl
    simp only [Instr.fill, hc, hn, Nat.zero_mul, Nat.zero_add]
    rw [if_neg]
    · congr 1
      rw [← Array.foldl_toList, Array.toList_zipIdx]
      have := foldl_place H.toList 0 ((Array.range (1 * H.size)).map (fun x => z.cells[x % z.cells.size]!)) (by simp)
      rw [this, put_all _ _ (by simp)]
    · simp
  have hb1 : ¬ 16777216 < H.size := by omega
  have hb0 : ¬ H.size = 0 := by omega
  unfold Instr.buildSlice
  simp [run_underlying ht, sizeOf, typeInfo, hi, hn, hb1, hb0, zeroValue, hz, newRow]
  simp [hn] at hf
  simp [hf]

end

end Go.Proofs.Ytmfajekfipfjpaa
namespace Go.Proofs.Ytmfajekfipfjpaa
open Go.RowKit

section
variable {P : Program} {ops : Array Oper} {o : Oper} {a : Act} {w : World} {Q : Exit → Act → World → Prop}
/-- A whole struct or array, wherever its cells begin. -/
theorem run_loadVar_any (p : Addr) (ty : TypeId) (cs : List Value) (d : TypeDesc) (hc : ∀ j v, cs[j]? = some v → w.cell? (p.add j) = some v)
    (hu : P.underlying ty = some d) (hd : d.isRow = true) (hi : (P.info? ty).map (·.size) = some cs.length) : (loadVar ty p).run P w = .ok (.agg cs.toArray) w := by
  have hl : (loadCells p cs.length).run P w = .ok cs.toArray w := run_loadCells_list (P := P) w p cs hc
  cases hq : P.info? ty with
  | none => simp [hq] at hi
  | some i =>
    have hs : i.size = cs.length := by simpa [hq] using hi
    have hagg : (isAgg ty).run P w = .ok true w := by
      unfold isAgg
      rw [Sem.run_bind, run_underlying hu w]
      cases d <;> simp_all
    simp [loadVar, Sem.run_bind, hagg, sizeOf, typeInfo, hq, hs, hl]

end

end Go.Proofs.Ytmfajekfipfjpaa
namespace Go.Proofs.Ytmfajekfipfjpaa
open Go.RowKit

theorem wp_run' {P : Program} {o : Oper} {a : Act} {w : World} {K : Act → World → Prop} {Q : Exit → Act → World → Prop} (v : Value) (w' : World) (hrun : (execOp a.eval o).run P w = .ok (.value v) w') (h : K (a.put o.dst v) w') : o.wp P a w K Q := by
  unfold Oper.wp
  rw [hrun, Oper.upon_value]
  exact h

section
variable {P : Program} {ops : Array Oper} {rest : List Oper} {o : Oper} {a : Act} {w : World} {Q : Exit → Act → World → Prop}
theorem wpList_run_on (hw : Region.wanted o (yielded ops a.tmps) = true) (v : Value) (w' : World) (hrun : (execOp a.eval o).run P w = .ok (.value v) w') (h : wpList P ops Q rest (a.put o.dst v) w') : wpList P ops Q (o :: rest) a w :=
  wpList_step fun _ hK => by
    rw [if_pos hw]
    exact wp_run' v w' hrun (hK _ _ h)
theorem wpList_load_any_on (hw : Region.wanted o (yielded ops a.tmps) = true) (ty : TypeId) (x : Operand) (ho : o.op = .load ty x) (p : Addr) (hx : a.eval x = .pointer (some p)) (cs : List Value) (d : TypeDesc)
    (hc : ∀ j v, cs[j]? = some v → w.cell? (p.add j) = some v) (hu : P.underlying ty = some d) (hd : d.isRow = true) (hi : (P.info? ty).map (·.size) = some cs.length) (h : wpList P ops Q rest (a.put o.dst (.agg cs.toArray)) w) : wpList P ops Q (o :: rest) a w :=
  wpList_run_on hw _ _ (by
    unfold execOp
    simp only [ho, hx, Instr.loadAt, Instr.sureAddr, Sem.run_bind, Sem.run_pure, Result.andThen_ok, run_loadVar_any p ty cs d hc hu hd hi]) h
end


end Go.Proofs.Ytmfajekfipfjpaa
