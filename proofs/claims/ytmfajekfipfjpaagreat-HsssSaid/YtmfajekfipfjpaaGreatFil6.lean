/- The statements' helper on error numbers (folder almonrylaw0).
   Hashes in variables, compared; texts filled up to a length.
   Layer 6: texts filled up to a length. -/
import Derived.Test.YtmfajekfipfjpaaGreatRows
import Derived.Test.YtmfajekfipfjpaaGreatRoundR
import Derived.Test.YtmfajekfipfjpaaGreatOtsSg
import Derived.Stop.BytesEq
namespace Go.Proofs.YtmfajekfipfjpaaGreat
open Go.RowKit

theorem errNum_any (x : Int) (w : World) : Calls Tryz.prog 8 #[.int .i64 x] w fun e w' => e = .returned (.int .i64 x) ∧ w = w' := by
  go_enter Tryz.func8, Tryz.ntmps8
  go_wp2
  go_ret
  exact ⟨rfl, rfl⟩

end Go.Proofs.YtmfajekfipfjpaaGreat
namespace Go.Proofs.YtmfajekfipfjpaaGreat
open Go.RowKit
open Go.Lib (strCells strCells_length strCells_oneCell)
attribute [local irreducible] Sha.compress Sha.blocks Sha.sha Sha.pad

/-- So many bytes out of a text, zeros behind. -/
def fillL (s : List UInt8) (k : Nat) : List UInt8 := (List.range k).map fun i => s.getD i 0
def fillT (s : ByteArray) (k : Nat) : ByteArray := txt (fillL s.data.toList k)
theorem fillL_length (s : List UInt8) (k : Nat) : (fillL s k).length = k := by simp [fillL]
theorem fillT_size (s : ByteArray) (k : Nat) : (fillT s k).size = k := by rw [fillT, txt_size, fillL_length]

/-- The cells so far. -/
def fillC (s : List UInt8) (k j : Nat) : List Value := (List.range k).map fun i => .int .u8 (if i < j then ((s.getD i 0).toNat : Int) else 0)
theorem fillC_zero (s : List UInt8) (k : Nat) : fillC s k 0 = List.replicate k (.int .u8 0) := by
  unfold fillC
  apply List.ext_getElem?
  intro i
  by_cases h : i < k
  · simp [h]
  · simp [h]
theorem fillC_at (s : List UInt8) (k j : Nat) (h : j < k) : (fillC s k j)[j]? = some (.int .u8 0) := by
  unfold fillC
  rw [List.getElem?_map, List.getElem?_range h]
  simp
theorem fillC_set (s : List UInt8) (k j : Nat) (h : j < k) : (fillC s k j).set j (.int .u8 ((s.getD j 0).toNat : Int)) = fillC s k (j + 1) := by
  unfold fillC
  apply List.ext_getElem?
  intro i
  by_cases hi : i < k
  · by_cases hij : j = i
    · subst hij
      rw [List.getElem?_set_self (by simpa using h), List.getElem?_map, List.getElem?_range hi]
      simp
    · rw [List.getElem?_set_ne hij, List.getElem?_map, List.getElem?_map, List.getElem?_range hi]
      simp only [Option.map_some]
      by_cases hlt : i < j
      · rw [if_pos hlt, if_pos (by omega)]
      · rw [if_neg hlt, if_neg (by omega)]
  · rw [List.getElem?_eq_none (by simp; omega), List.getElem?_eq_none (by simp; omega)]
theorem fillC_all (s : List UInt8) (k j : Nat) (h : k ≤ j ∨ s.length ≤ j) : fillC s k j = strCells (txt (fillL s k)) := by
  have e : strCells (txt (fillL s k)) = (fillL s k).map fun b => Value.int .u8 (b.toNat : Int) := rfl
  rw [e]
  unfold fillC fillL
  rw [List.map_map]
  apply List.map_congr_left
  intro i hi
  have hi' : i < k := by simpa using hi
  by_cases hlt : i < j
  · simp [hlt]
  · have : s.length ≤ i := by omega
    have hg : s.getD i 0 = 0 := by rw [List.getD, List.getElem?_eq_none this]; rfl
    simp only [hlt, if_false, Function.comp, hg]
    rfl

end Go.Proofs.YtmfajekfipfjpaaGreat
namespace Go.Proofs.YtmfajekfipfjpaaGreat
open Go.RowKit
open Go.Lib (strCells strCells_length strCells_oneCell)
attribute [local irreducible] Sha.compress Sha.blocks Sha.sha Sha.pad

set_option maxRecDepth 100000 in
set_option maxHeartbeats 1000000 in
theorem filled6_any (s : ByteArray) (k : Nat) (hk : k ≤ 1000) (_hs : s.size ≤ 140737488355000) (w : World) :
    Calls Tryz.prog 48 #[.string s, .int .i64 (k : Int)] w fun e w' => e = .returned (.string (fillT s k)) ∧ Below w.heap.size w w' := by
  obtain ⟨i0, hi, hz0, hz1, hz2⟩ := info_parts Tryz.infoU8
  have hsl := data_length s
  go_enter Tryz.func48, Tryz.ntmps48
  go_wp2_with ((with_reducible refine at_slot (some 8) ?_); refine wpList_make_block rfl _ _ 65 rfl 5 i0 (.int .u8 0) Tryz.underlying65 hi hz0 hz1 rfl (by omega) _ k rfl rfl rfl (by omega) ?_)
  go_loopw [6] (fun i wr => ∃ j : Nat, j ≤ k ∧ j ≤ s.size ∧ i = .int .i64 (j : Int) ∧ Holds wr w.heap.size 5 (fillC s.data.toList k j) ∧ Below w.heap.size w wr) (fun i _ => k - (intOf i).toNat)
  case atStart => exact ⟨0, Nat.zero_le _, Nat.zero_le _, rfl, by rw [fillC_zero]; exact Holds.new w _ _, (Below.refl _ _).alloc (Nat.le_refl _) _⟩
  case round =>
    obtain ⟨j, hj, hjs, rfl, hH, hB⟩ := hrel
    have hH' := hid hH
    have hB' := hid hB
    have hjk : ((j : Int) < (k : Int)) = (j < k) := by simp
    by_cases h1 : j < k
    · by_cases h2 : j < s.size
      · have hk1 : (j : Int) < (k : Int) := by omega
        have hk2 : (j : Int) < (s.size : Int) := by omega
        have hj0 : (0 : Int) ≤ (j : Int) := by omega
        have hix := str_byte s j h2 (j : Int) rfl
        have hset := hid (fillC_set s.data.toList k j h1)
        obtain ⟨b, hb⟩ : ∃ b, s.data.toList.getD j 0 = b := ⟨_, rfl⟩
        rw [hb] at hix hset
        have hsx : s[j]'h2 = b := by
          rw [← hb]
          have h1 : j < s.data.size := h2
          simp only [ByteArray.getElem_eq_getElem_data, List.getD]
          rw [Array.getElem?_toList, Array.getElem?_eq_getElem h1]
          rfl
        have hcell := (hH.cell j).trans (fillC_at s.data.toList k j h1)
        have hfr := hH.frozen j
        clear hH hB hb hjk
        go_wp2_with fail
        go_roundw
        case rel => exact ⟨j + 1, by omega, by omega, by go_num, by rw [← hset.out]; exact hH'.out.set _ _, hB'.out.setCell (Nat.le_refl _) _⟩
        case measure => simp [intOf]; omega
      · have hk1 : (j : Int) < (k : Int) := by omega
        have hk2 : decide ((j : Int) < (s.size : Int)) = false := by simp; omega
        rw [fillC_all _ _ _ (.inr (by omega))] at hH
        have hcv := run_convert_block (P := Tryz.prog) (w := wr) (e := 5) (n := k) (c := k) 65 9 Tryz.underlying65 Tryz.underlying5 Tryz.underlying9 (fillT_size s k).symm hH rfl
        clear hH hB hjk
        go_wp2_with fail
        go_ret
        exact ⟨rfl, hB'.out⟩
    · have hk1 : decide ((j : Int) < (k : Int)) = false := by simp; omega
      rw [fillC_all _ _ _ (.inl (by omega))] at hH
      have hcv := run_convert_block (P := Tryz.prog) (w := wr) (e := 5) (n := k) (c := k) 65 9 Tryz.underlying65 Tryz.underlying5 Tryz.underlying9 (fillT_size s k).symm hH rfl
      clear hH hB hjk
      go_wp2_with fail
      go_ret
      exact ⟨rfl, hB'.out⟩

end Go.Proofs.YtmfajekfipfjpaaGreat
