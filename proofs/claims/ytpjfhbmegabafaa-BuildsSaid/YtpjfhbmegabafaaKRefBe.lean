/- More words on memory: whole arrays in composite literals. No function of the program is named here.
   A struct's literal one of whose parts is an array that is not written out. No function of the program is named here.
   Whole structs and arrays, wherever their cells begin. No function of the program is named here.
   What a byte's type is.
   The document's own answers: a number's bytes; which numbers fit. -/
import Derived.Test.YtpjfhbmegabafaaKApFr
import Derived.Test.YtpjfhbmegabafaaRows
import Derived.Laws.MakeOwn
import Derived.IntWalk
namespace Go.Proofs.Ytpjfhbmegabafaa
open Go.RowKit
open Go.Lib (strCells strCells_length strCells_oneCell)

theorem foldl_place (l : List Value) (o : Nat) (Z : Array Value) (h : o + l.length ≤ Z.size) :
    (l.zipIdx o).foldl (fun cs p => cs.setIfInBounds p.2 p.1) Z = (put Z.toList o l).toArray := by
  induction l generalizing o Z with
  | nil => simp [put]
  | cons v l ih =>
    have h' : o + (l.length + 1) ≤ Z.size := h
    rw [List.zipIdx_cons, List.foldl_cons, ih (o + 1) _ (by rw [Array.size_setIfInBounds]; omega), Array.toList_setIfInBounds, put_cons _ _ _ _ (by rw [Array.length_toList]; omega)]

section
variable {P : Program} {ops : Array Oper} {o : Oper} {a : Act} {w : World} {Q : Exit → Act → World → Prop}

/-- A slice literal of one array (or struct) whose cells are not written out. -/
theorem run_buildSlice_one (t e : TypeId) (i : TypeInfo) (z : Value) (ht : P.underlying t = some (.slice e)) (hi : P.info? e = some i) (hz : i.zero = some z) (H : Array Value) (hn : i.size = H.size) (h0 : 0 < H.size) (h1 : H.size ≤ 1000000) :
    (Instr.buildSlice t 1 #[(0, .agg H)]).run P w = .ok (.slice (some ⟨w.heap.size, 0, none⟩) 1 1) (w.alloc (.cells H e)) := by
  have hsz : ((Array.range (1 * i.size)).map (fun x => z.cells[x % z.cells.size]!)).size = H.size := by simp [hn]
  have hf : Instr.fill (fun j => some (j * i.size, i.size)) ((Array.range (1 * i.size)).map (fun x => z.cells[x % z.cells.size]!)) [(0, Value.agg H)] = some H := by
    have hc : (Value.agg H).cells = H := rfl
    simp only [Instr.fill, hc, hn, Nat.zero_mul, Nat.zero_add]
    rw [if_neg]
    · congr 1
      rw [← Array.foldl_toList, Array.toList_zipIdx]
      have := foldl_place H.toList 0 ((Array.range (1 * H.size)).map (fun x => z.cells[x % z.cells.size]!)) (by simp)
      rw [this, put_all _ _ (by simp)]
    · simp
  have hb1 : ¬ 16777216 < H.size := by omega
  have hb0 : ¬ H.size = 0 := by omega
  unfold Instr.buildSlice
  simp [run_underlying ht, sizeOf, typeInfo, hi, hn, hb1, hb0, zeroValue, hz, newRow]
  simp [hn] at hf
  simp [hf]

end

end Go.Proofs.Ytpjfhbmegabafaa
namespace Go.Proofs.Ytpjfhbmegabafaa
open Go.RowKit

end Go.Proofs.Ytpjfhbmegabafaa
namespace Go.Proofs.Ytpjfhbmegabafaa
open Go.RowKit

section
variable {P : Program} {ops : Array Oper} {o : Oper} {a : Act} {w : World} {Q : Exit → Act → World → Prop}
/-- A whole struct or array, wherever its cells begin. -/
theorem run_loadVar_any (p : Addr) (ty : TypeId) (cs : List Value) (d : TypeDesc) (hc : ∀ j v, cs[j]? = some v → w.cell? (p.add j) = some v)
    (hu : P.underlying ty = some d) (hd : d.isRow = true) (hi : (P.info? ty).map (·.size) = some cs.length) : (loadVar ty p).run P w = .ok (.agg cs.toArray) w := by
  have hl : (loadCells p cs.length).run P w = .ok cs.toArray w := run_loadCells_list (P := P) w p cs hc
  cases hq : P.info? ty with
  | none => simp [hq] at hi
  | some i =>
    have hs : i.size = cs.length := by simpa [hq] using hi
    have hagg : (isAgg ty).run P w = .ok true w := by
      unfold isAgg
      rw [Sem.run_bind, run_underlying hu w]
      cases d <;> simp_all
    simp [loadVar, Sem.run_bind, hagg, sizeOf, typeInfo, hq, hs, hl]

theorem wpList_load_any {rest : List Oper} (hgd : o.guard = none) (ty : TypeId) (x : Operand) (ho : o.op = .load ty x) (p : Addr) (hx : a.eval x = .pointer (some p)) (cs : List Value) (d : TypeDesc) (hc : ∀ j v, cs[j]? = some v → w.cell? (p.add j) = some v)
    (hu : P.underlying ty = some d) (hd : d.isRow = true) (hi : (P.info? ty).map (·.size) = some cs.length) (h : wpList P ops Q rest (a.put o.dst (.agg cs.toArray)) w) : wpList P ops Q (o :: rest) a w :=
  wpList_run hgd _ _ (by
    unfold execOp
    simp only [ho, hx, Instr.loadAt, Instr.sureAddr, Sem.run_bind, Sem.run_pure, Result.andThen_ok, run_loadVar_any p ty cs d hc hu hd hi]) h

theorem yieldsIf_load_any {S : World → Prop} (hw : Region.wanted o (yielded ops a.tmps) = true) (ty : TypeId) (x : Operand) (ho : o.op = .load ty x) (p : Addr) (hx : a.eval x = .pointer (some p)) (cs : List Value) (d : TypeDesc)
    (hS : ∀ w, S w → ∀ j v, cs[j]? = some v → w.cell? (p.add j) = some v) (hu : P.underlying ty = some d) (hd : d.isRow = true) (hi : (P.info? ty).map (·.size) = some cs.length) : YieldsIf P ops S o (.agg cs.toArray) a :=
  .inl ⟨hw, fun w hw' => by
    unfold execOp
    simp only [ho, hx, Instr.loadAt, Instr.sureAddr, Sem.run_bind, Sem.run_pure, Result.andThen_ok, run_loadVar_any p ty cs d (hS w hw') hu hd hi]⟩
end

end Go.Proofs.Ytpjfhbmegabafaa
namespace Go.Proofs.Ytpjfhbmegabafaa

theorem Try.infoU8 : (Try.prog.info? 5).map (fun i => (i.zero, i.size, i.bytes)) = some (some (.int .u8 0), 1, 1) := by kernel_rfl

end Go.Proofs.Ytpjfhbmegabafaa
namespace Go.Proofs.Ytpjfhbmegabafaa
open Go.RowKit
open Go.Lib (strCells strCells_length strCells_oneCell)

theorem beL_cons (j x : Nat) : beL (j + 1) x = UInt8.ofNat (x / 256 ^ j) :: beL j x := by
  unfold beL
  rw [List.range_succ_eq_map, List.map_cons, List.map_map]
  congr 1
  apply List.map_congr_left
  intro i hi
  have hi' : i < j := by simpa using hi
  have e : j + 1 - 1 - (i + 1) = j - 1 - i := by omega
  simp only [Function.comp, Nat.succ_eq_add_one, e]

/-- The cells of the last j bytes, zeros ahead of them. -/
def beCells (n x j : Nat) : List Value := List.replicate (n - j) (.int .u8 0) ++ (beL j x).map fun b => Value.int .u8 (b.toNat : Int)

theorem beCells_all (n x : Nat) : beCells n x n = strCells (be n x) := by simp [beCells, strCells, be]
theorem beCells_set (n x j : Nat) (h : j < n) : (beCells n x j).set (n - 1 - j) (.int .u8 ((x / 256 ^ j % 256 : Nat) : Int)) = beCells n x (j + 1) := by
  unfold beCells
  have e : n - j = (n - 1 - j) + 1 := by omega
  rw [List.set_append_left _ _ (by simp; omega), e, List.replicate_succ', List.set_append_right _ _ (by simp)]
  simp only [List.length_replicate, Nat.sub_self, List.set_cons_zero, List.append_assoc, List.singleton_append]
  have e2 : n - (j + 1) = n - 1 - j := by omega
  rw [e2, beL_cons, List.map_cons]
  simp
theorem beCells_get (n x j : Nat) (h : j < n) : (beCells n x j)[n - 1 - j]? = some (.int .u8 0) := by
  unfold beCells
  rw [List.getElem?_append_left (by simp; omega), List.getElem?_replicate]
  simp
  omega

section
variable {P : Program} {ops : Array Oper} {o : Oper} {a : Act} {w : World} {Q : Exit → Act → World → Prop}
/-- 'make([]T, n)' of one-cell elements: the block written out. -/
theorem wpList_make_block {rest : List Oper} (hgd : o.guard = none) (l c : Operand) (t : TypeId) (hop : o.op = Op.makeSlice t l c) (e : TypeId) (i : TypeInfo) (z : Value) (ht : P.underlying t = some (.slice e)) (hi : P.info? e = some i)
    (hz : i.zero = some z) (hsize : i.size = 1) (hcz : z.cells = #[z]) (hby : i.bytes ≤ 64) (L : Int) (n : Nat) (hl : a.eval l = .int .i64 L) (hc : a.eval c = .int .i64 L) (hL : L = (n : Int)) (hn : n ≤ 1000000000)
    (h : wpList P ops Q rest (a.put o.dst (.slice (some ⟨w.heap.size, 0, none⟩) n n)) (w.alloc (.cells (List.replicate n z).toArray e))) : wpList P ops Q (o :: rest) a w := by
  subst hL
  have hb : i.bytes * n ≤ 64 * n := Nat.mul_le_mul_right _ hby
  have hrun := run_make (P := P) w t e i z ht hi hz .i64 .i64 (n : Int) (n : Int) (by omega) (by omega) (by have h1 : ((i.bytes * n : Nat) : Int) ≤ ((64 * n : Nat) : Int) := Int.ofNat_le.2 hb; rw [Int.natCast_mul] at h1; omega) (by omega)
  rw [hcz, Int.toNat_natCast, hsize, Nat.mul_one] at hrun
  have hm : madeCells #[z] n = (List.replicate n z).toArray := by rw [← toList_madeCells_one z n]
  rw [hm] at hrun
  refine wpList_run hgd _ _ ?_ h
  unfold execOp
  simp only [hop, hl, hc, Sem.run_bind, hrun, Result.andThen_ok, Sem.run_pure]
end

theorem byte_and (x : Int) (h0 : 0 ≤ x) (h1 : x < 9223372036854775808) : bits .and .i64 x 255 = x % 256 := by
  obtain ⟨n, rfl⟩ : ∃ n : Nat, x = n := ⟨x.toNat, by omega⟩
  show IntKind.i64.wrap ((BitVec.ofInt 64 (n : Int) &&& BitVec.ofInt 64 255).toNat : Int) = _
  have h255 : BitVec.ofInt 64 255 = 255#64 := by decide
  rw [BitVec.ofInt_natCast, h255, BitVec.toNat_and, BitVec.toNat_ofNat, Nat.mod_eq_of_lt (by omega)]
  have e : (255#64 : BitVec 64).toNat = 2 ^ 8 - 1 := by decide
  rw [e, Nat.and_two_pow_sub_one_eq_mod, IntWalk.i64_in _ (by omega)]
  omega

theorem pow_step (x j : Nat) : x / 256 ^ j / 256 = x / 256 ^ (j + 1) := by
  rw [Nat.pow_succ, ← Nat.div_div_eq_div_mul]

set_option maxRecDepth 100000 in
set_option maxHeartbeats 1000000 in
theorem Be_any (x size : Int) (n : Nat) (hn : size = n) (hs : n ≤ 64) (x0 : Nat) (hx : x = x0) (hx1 : x0 < 9223372036854775808) (w : World) :
    Calls Try.prog 63 #[.int .i64 x, .int .i64 size] w fun e w' => e = .returned (.string (be n x0)) ∧ Below w.heap.size w w' := by
  subst hn hx
  obtain ⟨i0, hi, hz0, hz1, hz2⟩ := info_parts Try.infoU8
  have hx1' := hid hx1
  clear hx1
  go_enter Try.func63, Try.ntmps63
  go_wp2_with ((with_reducible refine at_slot (some 8) ?_); refine wpList_make_block rfl _ _ 51 rfl 5 i0 (.int .u8 0) Try.underlying51 hi hz0 hz1 rfl (by omega) _ n rfl rfl rfl (by omega) ?_)
  go_loopw [0, 6] (fun x i wr => ∃ j y : Nat, j ≤ n ∧ i = .int .i64 ((n : Int) - 1 - j) ∧ x = .int .i64 (y : Int) ∧ Hid (x0 / 256 ^ j = y) ∧ Holds wr w.heap.size 5 (beCells n x0 j) ∧ Below w.heap.size w wr) (fun _ i _ => (intOf i + 1).toNat)
  case atStart => exact ⟨0, x0, Nat.zero_le _, by simp, rfl, hid (by simp), by have := Holds.new w 5 (List.replicate n (.int .u8 0)).toArray; simpa [beCells, beL] using this, (Below.refl _ _).alloc (Nat.le_refl _) _⟩
  case round =>
    obtain ⟨j, y, hj, rfl, rfl, hy, hH, hB⟩ := hrel
    have hyx : y < 9223372036854775808 := by have := Nat.div_le_self x0 (256 ^ j); rw [hy.out] at this; have := hx1'.out; omega
    by_cases hlt : j < n
    · have hand := byte_and (y : Int) (by omega) (by omega)
      have hcell := (hH.cell (n - 1 - j)).trans (beCells_get n x0 j hlt)
      have hfr := hH.frozen (n - 1 - j)
      have hset0 := beCells_set n x0 j hlt
      rw [hy.out] at hset0
      have hset := hid hset0
      have hpow0 := pow_step x0 j
      rw [hy.out] at hpow0
      have hpow := hid hpow0.symm
      have hH' := hid hH
      have hB' := hid hB
      have hge : decide ((0 : Int) ≤ (n : Int) - 1 - j) = true := by simp; omega
      have hto : ((n : Int) - 1 - j).toNat = n - 1 - j := by omega
      have hl1 : (n : Int) - 1 - j < n := by omega
      have hg1 : (0 : Int) ≤ (n : Int) - 1 - j := by omega
      have hyx' := hid hyx
      clear hH hB hset0 hpow0 hyx
      go_wp2
      go_roundw
      case rel =>
        refine ⟨j + 1, y / 256, by omega, by go_num, by go_num, hpow, ?_, ?_⟩
        · rw [← hset.out]
          exact hH'.out.set _ _
        · exact hB'.out.setCell (Nat.le_refl _) _
      case measure => simp [intOf]; omega
    · have hjn : j = n := by omega
      subst hjn
      have hge : decide ((0 : Int) ≤ (j : Int) - 1 - j) = false := by simp; omega
      rw [beCells_all] at hH
      have hcv := run_convert_block (P := Try.prog) (w := wr) (e := 5) (n := j) (c := j) 51 9 Try.underlying51 Try.underlying5 Try.underlying9 (be_size j x0).symm hH rfl
      have hB' := hid hB
      clear hH hB hlt hj hyx hs
      go_wp2
      go_ret
      exact ⟨rfl, hB'.out⟩

end Go.Proofs.Ytpjfhbmegabafaa
