/- sha.New, Digest.Len, Digest.Write. -/
import Derived.Test.YtpjfhbmegabafaaKMixAll
import Derived.Test.YtpjfhbmegabafaaKShaText
import Derived.Lib.LazyBuf
import Derived.Lib.SlBuf
namespace Go.Proofs.Ytpjfhbmegabafaa
open Go.RowKit

def Sha.S8.list (s : Sha.S8) : List (BitVec 32) := [s.a, s.b, s.c, s.d, s.e, s.f, s.g, s.h]

/-- Eight words, as a value. -/
def s8Agg (s : Sha.S8) : Value := .agg (wordCells s.list).toArray

theorem Try.sizeW8 : (Try.prog.info? 162).map (·.size) = some 8 := by kernel_rfl

set_option maxRecDepth 100000 in
theorem firstWords_any (w : World) : Calls Try.prog 97 #[] w fun e w' => e = .returned (s8Agg Sha.S8.first) ∧ Below w.heap.size w w' := by
  go_enter Try.func97, Try.ntmps97
  go_wp2_with (refine wpList_store_mid rfl 162 (.tmp 0) (.tmp 1) rfl w.heap.size 0 (wordCells Sha.S8.first.list).toArray rfl rfl ?_ ?_ ?_ ?_)
  · exact (Holds.new _ _ _).there 0 8 (by decide)
  · exact Try.sizeW8
  · exact all_oneCell_toArray (wordCells_one _)
  · have h0 := Holds.put (Holds.new w 162 (Array.replicate 8 (.int .u32 0))) 0 (wordCells Sha.S8.first.list) (by decide)
    rw [put_all _ _ (by decide)] at h0
    refine bodyPost_ret (v := s8Agg Sha.S8.first) ?_ rfl ⟨rfl, below_setCells ((Below.refl _ _).alloc (Nat.le_refl _) _) _ _ _ (Nat.le_refl _)⟩
    exact results_cell_row rfl _ _ w.heap.size 162 (wordCells Sha.S8.first.list).toArray (0, 0) _ rfl h0 Try.underlying162 rfl Try.sizeW8

theorem ub_nat (b : UInt8) : ub b = (b.toNat : Int) := by
  unfold ub u
  have := b.toNat_lt
  rw [BitVec.toNat_ofNat]
  omega

theorem dig_len (s : Sha.S8) (rest : List UInt8) (n : Int) (hr : rest.length = 64) : (digCells s rest n)[72]? = some (.int .i64 n) := by
  unfold digCells
  rw [List.getElem?_append_right (by simp [hr])]
  simp [hr]

theorem dig_length (s : Sha.S8) (rest : List UInt8) (n : Int) (hr : rest.length = 64) : (digCells s rest n).length = 73 := by simp [digCells, hr]

/-- Bytes as cells. -/
def byteCells (l : List UInt8) : List Value := l.map fun b => .int .u8 (b.toNat : Int)

theorem byteCells_length (l : List UInt8) : (byteCells l).length = l.length := by simp [byteCells]

theorem dig_form (s : Sha.S8) (rest : List UInt8) (n : Int) : digCells s rest n = wordCells s.list ++ byteCells rest ++ [.int .i64 n] := by
  unfold digCells byteCells
  simp only [ub_nat]
  rfl

theorem wordCells_list (s : Sha.S8) : (wordCells s.list).length = 8 := rfl

theorem dig_words (s r : Sha.S8) (rest : List UInt8) (n : Int) : put (digCells s rest n) 0 (wordCells r.list) = digCells r rest n := rfl

theorem dig_bytes (s : Sha.S8) (rest x : List UInt8) (k : Nat) (n : Int) (hr : rest.length = 64) (hk : k + x.length ≤ 64) : put (digCells s rest n) (8 + k) (byteCells x) = digCells s (Sha.laid rest x k) n := by
  rw [dig_form, dig_form]
  unfold put Sha.laid
  have e1 : 8 + k = (wordCells s.list).length + k := by rw [wordCells_list]
  have h1 : (byteCells rest).length = 64 := by rw [byteCells_length, hr]
  simp only [List.append_assoc]
  rw [e1, List.take_length_add_append, Nat.add_assoc, List.drop_length_add_append, List.take_append_of_le_length (by omega), List.drop_append_of_le_length (by rw [byteCells_length]; omega), byteCells_length]
  simp only [byteCells, List.map_append, List.map_take, List.map_drop, List.append_assoc]

theorem put_one (cs : List Value) (o : Nat) (v : Value) (h : o < cs.length) : put cs o [v] = cs.set o v := by
  rw [← put_cons cs o v [] (by simp; omega)]
  unfold put
  simp

theorem dig_one (s : Sha.S8) (rest : List UInt8) (b : UInt8) (k : Nat) (n : Int) (hr : rest.length = 64) (hk : k < 64) : (digCells s rest n).set (8 + k) (.int .u8 (b.toNat : Int)) = digCells s (Sha.laid rest [b] k) n := by
  have h := dig_bytes s rest [b] k n hr (by simp; omega)
  rw [← h]
  exact (put_one _ _ _ (by rw [dig_length s rest n hr]; omega)).symm

theorem dig_count (s : Sha.S8) (rest : List UInt8) (n m : Int) (hr : rest.length = 64) : (digCells s rest n).set 72 (.int .i64 m) = digCells s rest m := by
  rw [dig_form, dig_form, List.set_append_right _ _ (by simp [byteCells, hr, wordCells_list])]
  simp [byteCells, hr, wordCells_list]

/-- A digest of which just t was written. -/
def Dig (w : World) (g : Nat) (t : List UInt8) : Prop := ∃ s rest, rest.length = 64 ∧ (t ≠ [] → Sha.Valid s rest t) ∧ Holds w g 174 (digCells s rest (t.length : Int))

/-- 'copy(dst, s)', s a string of whatever length. -/
theorem run_copy_min {P : Program} (w : World) (dT sT ty elem : TypeId) (b o dLen dCap : Nat) (t : ByteArray)
    (hu : P.underlying dT = some (.slice elem)) (hz : ∀ w, (Go.sizeOf elem).run P w = .ok 1 w)
    (hc : w.there b o dLen) :
    (Builtin.copy_ #[dT, sT] ty #[.slice (some ⟨b, o, none⟩) dLen dCap, .string t]).run P w = .ok (goInt ((min t.size dLen : Nat) : Int)) (w.setCells b o (byteCells (t.data.toList.take dLen))) := by
  have hl : (byteCells (t.data.toList.take dLen)).length = min t.size dLen := by
    rw [byteCells_length, List.length_take, Array.length_toList, Nat.min_comm]
    rfl
  have hst := run_storeCells_cells (P := P) b o (byteCells (t.data.toList.take dLen)) 0 w (by rw [hl]; intro j hj; simpa using (hc j (by omega)).1) (by rw [hl]; intro j hj; simpa using (hc j (by omega)).2) (by
    intro v hv
    obtain ⟨x, _, rfl⟩ := List.mem_map.1 hv
    rfl)
  have hm : (t.data.toList.map fun x => Value.int .u8 (x.toNat : Int)).take (Nat.min t.size dLen) = byteCells (t.data.toList.take dLen) := by
    rw [← List.map_take]
    unfold byteCells
    congr 1
    rw [List.take_eq_take_iff, Array.length_toList]
    show min (min t.size dLen) t.size = min dLen t.size
    omega
  simp [Builtin.copy_, run_underlying hu, Builtin.lenOf, Builtin.firstCells, hz]
  rw [hm, hst]
  rfl

end Go.Proofs.Ytpjfhbmegabafaa
