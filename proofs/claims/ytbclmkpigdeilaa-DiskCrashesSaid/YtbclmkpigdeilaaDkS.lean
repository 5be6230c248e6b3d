/- Layer 7: a sector of one byte, as the statements make it. -/
import Derived.Test.YtbclmkpigdeilaaDkD
namespace Go.Proofs.Ytbclmkpigdeilaa
open Go.RowKit
open Go.Lib (strCells strCells_length strCells_oneCell)

def secB (c : Int) : UInt8 := UInt8.ofNat (c % 256).toNat
theorem secB_val (c : Int) : ((secB c).toNat : Int) = c % 256 := by
  unfold secB
  have h1 : 0 ≤ c % 256 := Int.emod_nonneg _ (by decide)
  have h2 : c % 256 < 256 := Int.emod_lt_of_pos _ (by decide)
  simp
  omega
/-- 64 bytes alike. -/
def secT (c : Int) : ByteArray := ⟨(List.replicate 64 (secB c)).toArray⟩
theorem secT_size (c : Int) : (secT c).size = 64 := by
  rw [← data_length]
  unfold secT
  rw [mk_data, List.length_replicate]
theorem secT_cells (c : Int) : strCells (secT c) = List.replicate 64 (.int .u8 (c % 256)) := by
  unfold strCells secT
  rw [mk_data, List.map_replicate, secB_val]
theorem secT_zero : secT 0 = zeroS 64 := rfl
theorem secT_inj {a b : Int} (h : secT a = secT b) : a % 256 = b % 256 := by
  have h1 := congrArg strCells h
  rw [secT_cells, secT_cells] at h1
  have h2 := congrArg (fun l : List Value => l[0]?) h1
  simpa using h2
/-- The first k bytes are written. -/
def secFill (c : Int) (k : Nat) : List Value := List.replicate k (.int .u8 (c % 256)) ++ List.replicate (64 - k) (.int .u8 0)
theorem secFill_len {c : Int} {k : Nat} (h : k ≤ 64) : (secFill c k).length = 64 := by
  unfold secFill
  rw [List.length_append, List.length_replicate, List.length_replicate]
  omega
theorem secFill_at {c : Int} {k : Nat} (h : k < 64) : (secFill c k)[k]? = some (.int .u8 0) := by
  unfold secFill
  rw [List.getElem?_append_right (by rw [List.length_replicate]; exact Nat.le_refl _), List.length_replicate, Nat.sub_self, List.getElem?_replicate, if_pos (by omega)]
theorem secFill_set {c : Int} {k : Nat} (h : k < 64) : (secFill c k).set k (.int .u8 (c % 256)) = secFill c (k + 1) := by
  unfold secFill
  rw [List.set_append_right _ _ (by rw [List.length_replicate]; exact Nat.le_refl _), List.length_replicate, Nat.sub_self]
  obtain ⟨m, hm⟩ : ∃ m, 64 - k = m + 1 := ⟨63 - k, by omega⟩
  rw [hm, List.replicate_succ, List.set_cons_zero, List.replicate_succ', List.append_assoc, show 64 - (k + 1) = m from by omega]
  rfl

set_option maxRecDepth 100000 in
theorem sector_any (c : Int) (w : World) : Calls Try.prog 44 #[.int .i64 c] w fun e w' => e = .returned (.string (secT c)) ∧ Below w.heap.size w w' := by
  obtain ⟨W0, hW0⟩ : ∃ W0, w.alloc (.cells z64 5) = W0 := ⟨_, rfl⟩
  have hH0 := hid (show Holds W0 w.heap.size 5 (secFill c 0) from by rw [← hW0]; exact Holds.new w _ _)
  have hB0 := hid (show Below w.heap.size w W0 from by rw [← hW0]; exact (Below.refl _ _).alloc (Nat.le_refl _) _)
  have hW0' := hid hW0
  obtain ⟨g, hg⟩ : ∃ g, w.heap.size = g := ⟨_, rfl⟩
  rw [hg] at hH0
  have hgw := hid hg
  clear hW0 hg
  go_enter Try.func44, Try.ntmps44
  go_wp2_with (first
    | ((with_reducible refine at_slot (some 5) ?_); refine wpList_run rfl (.slice (some ⟨g, 0, none⟩) 64 64) (w.alloc (.cells z64 5)) (by rw [← hgw.out]; kernel_rfl) ?_; rw [hW0'.out])
    | fail)
  go_loopw [4] (fun ix wr => ∃ k : Nat, k ≤ 64 ∧ ix = .int .i64 (k : Int) ∧ Holds wr g 5 (secFill c k) ∧ Below w.heap.size w wr) (fun ix _ => 64 - (intOf ix).toNat)
  case atStart => exact ⟨0, by omega, rfl, hH0.out, hB0.out⟩
  case round =>
    obtain ⟨k, hk, rfl, hHr, hBr⟩ := hrel
    obtain ⟨W10, rfl⟩ : ∃ V, V = wr := ⟨_, rfl⟩
    by_cases hlt : k < 64
    · have hlt' : (k : Int) < 64 := by omega
      have hc := hHr.cK k _ (secFill_at hlt)
      have hf := hHr.frozen k
      have hH2 := hid (hHr.set k (.int .u8 (c % 256)))
      rw [secFill_set hlt] at hH2
      have hB2 := hid (hBr.setCell (p := ⟨g, k, none⟩) (by show w.heap.size ≤ g; rw [hgw.out]; exact Nat.le_refl _) (.int .u8 (c % 256)))
      clear hHr hBr
      go_wp2_with fail
      go_roundw
      case rel => exact ⟨k + 1, by omega, by go_num, hH2.out, hB2.out⟩
      case measure => simp [intOf]; omega
    · obtain rfl : k = 64 := by omega
      have hcv := run_convert_block (P := Try.prog) (w := W10) (t := 5) (e := 5) 51 9 Try.underlying51 Try.underlying5 Try.underlying9 (g := g) (c := 64) (n := 64) (s := secT c) (secT_size c).symm hHr (by rw [secT_cells]; rfl)
      have hB2 := hid hBr
      clear hHr hBr
      go_wp2_with fail
      go_ret
      exact ⟨rfl, hB2.out⟩

end Go.Proofs.Ytbclmkpigdeilaa
