/- sha.New, Digest.Len, Digest.Sum, sha.Sum. -/
import Derived.Test.YtenfhmpjhbpkpaaShaFin2
namespace Go.Proofs.Ytenfhmpjhbpkpaa
open Go.RowKit

attribute [local irreducible] Sha.compress Sha.blocks Sha.sha

def zeroS8 : Sha.S8 := ⟨0, 0, 0, 0, 0, 0, 0, 0⟩
def zeroDig : Array Value := (digCells zeroS8 (List.replicate 64 0) 0).toArray

/-- A hash, as a value. -/
def hashV (t : List UInt8) : Value := .agg (byteCells (Sha.sha t)).toArray

theorem dig_new (w : World) : Dig (w.alloc (.cells zeroDig 91)) w.heap.size [] := by
  exact ⟨zeroS8, List.replicate 64 0, by simp, fun h => absurd rfl h, Holds.new w _ zeroDig⟩

theorem Dig.below {w w' : World} {g : Nat} {t : List UInt8} {B : Nat} (h : Dig w g t) (hb : Below B w w') (hg : g < B) : Dig w' g t := by
  obtain ⟨s, r, h1, h2, h3⟩ := h
  exact ⟨s, r, h1, h2, h3.below hb hg⟩

theorem Dig.grown {w w' : World} {g : Nat} {t : List UInt8} {row : Option Nat} (h : Dig w g t) (hb : w.grownBy w' row) (hg : some g ≠ row) : Dig w' g t := by
  obtain ⟨s, r, h1, h2, h3⟩ := h
  exact ⟨s, r, h1, h2, h3.grown hb hg⟩

theorem Dig.lt {w : World} {g : Nat} {t : List UInt8} (h : Dig w g t) : g < w.heap.size := by
  obtain ⟨s, r, h1, h2, h3⟩ := h
  exact h3.lt

theorem sha_size (t : List UInt8) : (byteCells (Sha.sha t)).toArray.size = 32 := by
  rw [List.size_toArray, byteCells_length, Sha.sha_def]
  simp [Sha.S8.bytes, bytes_length]

theorem byteCells_one (l : List UInt8) : ∀ v ∈ byteCells l, v.oneCell' = true := by
  intro v hv
  obtain ⟨x, _, rfl⟩ := List.mem_map.1 hv
  rfl


set_option maxRecDepth 100000 in
set_option maxHeartbeats 1000000 in
theorem sum_any (x : ByteArray) (w : World) (hx : x.size < 1152921504606846976) : Calls Try.prog 39 #[.string x] w fun e w' => e = .returned (hashV x.data.toList) ∧ Below w.heap.size w w' := by
  obtain ⟨W1, hW1⟩ : ∃ W1, w.alloc (.cells z32 28) = W1 := ⟨_, rfl⟩
  obtain ⟨W2, hW2⟩ : ∃ W2, W1.alloc (.cells zeroDig 91) = W2 := ⟨_, rfl⟩
  have hB1 : W1.heap[w.heap.size]? = some (.cells z32 28 (0, 0)) := by rw [← hW1]; exact heap_alloc_new _ _
  have hB2 : W2.heap[w.heap.size]? = some (.cells z32 28 (0, 0)) := by rw [← hW2]; exact heap_up _ _ _ _ hB1
  have hs1 : W1.heap.size = w.heap.size + 1 := by rw [← hW1]; simp
  have hD2 : Dig W2 W1.heap.size [] := by rw [← hW2]; exact dig_new W1
  have hb2 : Below w.heap.size w W2 := by rw [← hW2, ← hW1]; exact ((Below.refl _ _).alloc (Nat.le_refl _) _).alloc (by simp) _
  have hs2 : W2.heap.size = w.heap.size + 2 := by rw [← hW2]; simp [hs1]
  have hW1' := hid hW1
  have hW2' := hid hW2
  have hB2' := hid hB2
  rw [hs1] at hD2
  have hD2' := hid hD2
  have hb2' := hid hb2
  have hs1' := hid hs1
  clear hs1
  clear hW1 hW2 hB1 hB2 hD2 hb2
  go_enter Try.func39, Try.ntmps39
  go_wp2_with (first
    | ((with_reducible refine at_slot (some 2) ?_); refine wpList_run rfl (.pointer (some ⟨w.heap.size, 0, none⟩)) (w.alloc (.cells z32 28)) (by kernel_rfl) ?_; rw [hW1'.out])
    | ((with_reducible refine at_slot (some 3) ?_); refine wpList_run rfl (.pointer (some ⟨W1.heap.size, 0, none⟩)) (W1.alloc (.cells zeroDig 91)) (by kernel_rfl) ?_; rw [hW2'.out, hs1'.out]))
  refine (write_any (w.heap.size + 1) [] x W2 hD2'.out (by simp; omega)).mono ?_
  rintro e w3 ⟨rfl, hD3, hG3⟩
  rw [List.nil_append] at hD3
  have hD3' := hid hD3
  have hG3' := hid hG3
  clear hD3 hG3
  go_wp2_with fail
  refine (finish_any (w.heap.size + 1) _ w3 hD3'.out (by rw [data_length]; exact hx)).mono ?_
  rintro e w4 ⟨rfl, hG4⟩
  have hG := only_trans hG3'.out hG4
  have hB4 := (hG.block w.heap.size (by omega) (fun e => by have := Option.some.inj e; omega)).trans hB2'.out
  obtain ⟨H, hH⟩ : ∃ H, (byteCells (Sha.sha x.data.toList)).toArray = H := ⟨_, rfl⟩
  have hHs : H.size = 32 := by rw [← hH]; exact sha_size _
  have hH1 : H.all (·.oneCell') = true := by rw [← hH]; exact all_oneCell_toArray (byteCells_one _)
  rw [hH]
  have hH' := hid hH
  clear hH
  go_wp2_with (refine wpList_store_row rfl 28 (.tmp 2) (.tmp 6) rfl w.heap.size H rfl rfl 28 z32 (by exact hB4) (by rw [Try.infoHash, hHs]) (by rw [hHs]; rfl) (by exact hH1) ?_)
  have hs0 := setRow_heap w4 w.heap.size z32 H 28 (0, 0) hB4
  refine bodyPost_ret (v := .agg H) (results_cell_row rfl _ _ w.heap.size 28 H (0, 0) _ rfl hs0 Try.underlying28 rfl (by rw [Try.infoHash, hHs])) rfl ⟨?_, ?_⟩
  · rw [← hH'.out]
    rfl
  · have hb := below_of_only hb2'.out hG (by omega) (by omega)
    exact ⟨hb.os, hb.tape, hb.output, by have := hb.size; simpa using this, fun k hk => (setRow_other w4 _ _ _ (by omega)).trans (hb.block k hk)⟩

theorem Try.sizeDig : (Try.prog.info? 91).map (·.size) = some 73 := by kernel_rfl

theorem dig_one_cell (s : Sha.S8) (rest : List UInt8) (n : Int) : ∀ v ∈ digCells s rest n, v.oneCell' = true := by
  intro v hv
  rw [dig_form] at hv
  rcases List.mem_append.1 hv with h | h
  · rcases List.mem_append.1 h with h | h
    · exact wordCells_one _ v h
    · exact byteCells_one _ v h
  · rw [List.mem_singleton.1 h]
    rfl


end Go.Proofs.Ytenfhmpjhbpkpaa
