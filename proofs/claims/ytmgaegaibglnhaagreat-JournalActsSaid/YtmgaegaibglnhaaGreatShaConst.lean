/- One block of SHA-256, as the program works it in. -/
import Derived.Test.YtmgaegaibglnhaaGreatShaOps
import Derived.Test.YtmgaegaibglnhaaGreatBlock
namespace Go.Proofs.YtmgaegaibglnhaaGreat
open Go.RowKit

/-- A byte as the number that Go holds. -/
def ub (b : UInt8) : Int := u (BitVec.ofNat 32 b.toNat)

theorem ub_bd (b : UInt8) : 0 ≤ ub b ∧ ub b ≤ 255 := by
  unfold ub u
  have := b.toNat_lt
  rw [BitVec.toNat_ofNat]
  omega

/-- The cells of a Digest: eight words, 64 bytes, a number. -/
def digCells (s : Sha.S8) (rest : List UInt8) (n : Int) : List Value :=
  [.int .u32 (u s.a), .int .u32 (u s.b), .int .u32 (u s.c), .int .u32 (u s.d), .int .u32 (u s.e), .int .u32 (u s.f), .int .u32 (u s.g), .int .u32 (u s.h)] ++ (rest.map fun b => .int .u8 (ub b)) ++ [.int .i64 n]

def wordCells (ws : List (BitVec 32)) : List Value := ws.map fun x => .int .u32 (u x)

/-- The table, as a value. -/
def ksAgg : Value := .agg (wordCells Sha.ks).toArray

theorem ks_length : (wordCells Sha.ks).toArray.size = 64 := by decide

theorem wordCells_one (ws : List (BitVec 32)) : ∀ v ∈ wordCells ws, v.oneCell' = true := by
  intro v hv
  obtain ⟨x, _, rfl⟩ := List.mem_map.1 hv
  rfl

theorem Tryz.sizeKs : (Tryz.prog.info? 311).map (·.size) = some 64 := by kernel_rfl

set_option maxRecDepth 100000 in
set_option maxHeartbeats 1000000 in
theorem constants_any (w : World) : Calls Tryz.prog 247 #[] w fun e w' => e = .returned ksAgg ∧ Below w.heap.size w w' := by
  go_enter Tryz.func247, Tryz.ntmps247
  go_wp2_with (refine wpList_store_mid rfl 311 (.tmp 0) (.tmp 1) rfl w.heap.size 0 (wordCells Sha.ks).toArray rfl rfl ?_ ?_ ?_ ?_)
  · rw [ks_length]
    exact (Holds.new _ _ _).there 0 64 (by decide)
  · rw [ks_length]
    exact Tryz.sizeKs
  · exact all_oneCell_toArray (wordCells_one _)
  · have h0 := Holds.put (Holds.new w 311 (Array.replicate 64 (.int .u32 0))) 0 (wordCells Sha.ks) (by decide)
    rw [put_all _ _ (by decide)] at h0
    refine bodyPost_ret (v := ksAgg) ?_ rfl ⟨rfl, below_setCells ((Below.refl _ _).alloc (Nat.le_refl _) _) _ _ _ (Nat.le_refl _)⟩
    exact results_cell_row rfl _ _ w.heap.size 311 (wordCells Sha.ks).toArray (0, 0) _ rfl h0 Tryz.underlying311 rfl (by rw [ks_length]; exact Tryz.sizeKs)

end Go.Proofs.YtmgaegaibglnhaaGreat
