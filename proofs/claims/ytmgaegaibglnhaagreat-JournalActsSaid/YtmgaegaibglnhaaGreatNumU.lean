/- Numbers as bytes: package num. -/
import Derived.Test.YtmgaegaibglnhaaGreatTagP
import Derived.Test.YtmgaegaibglnhaaGreatTools
import Derived.Test.YtmgaegaibglnhaaGreatHashR
namespace Go.Proofs.YtmgaegaibglnhaaGreat
open Go.RowKit
open Go.Lib (strCells strCells_length strCells_oneCell)

/-- A slice of bytes as a text. -/
theorem row_text (w : World) (g n : Nat) (s : ByteArray) (hn : n = s.size) (t : TypeId) (h : Holds w g t (strCells s)) : (convert 82 9 (.slice (some ⟨g, 0, none⟩) n n)).run Tryz.prog w = .ok (.string s) w :=
  run_convert_block (P := Tryz.prog) (w := w) (e := 5) (n := n) (c := n) 82 9 Tryz.underlying82 Tryz.underlying5 Tryz.underlying9 hn h rfl

theorem be_byte (n k : Nat) : ((UInt8.ofNat (n / 256 ^ k)).toNat : Int) = (n : Int) / 256 ^ k % 256 := by
  rw [UInt8.toNat_ofNat', Int.natCast_emod, Int.natCast_ediv, Int.natCast_pow]
  rfl

theorem be_byte0 (n : Nat) : ((UInt8.ofNat (n / 256 ^ 0)).toNat : Int) = (n : Int) % 256 := by
  have e := be_byte n 0
  have q0 : (n : Int) / 256 ^ 0 = n := by simp
  rw [q0] at e
  exact e

theorem U8_any (n : Nat) (w : World) : Calls Tryz.prog 101 #[.int .i64 (n : Int)] w fun e w' => e = .returned (.string (be 1 n)) ∧ Below w.heap.size w w' := by
  have hcv := row_text (w.alloc (.cells #[.int .u8 ((n : Int) % 256)] 5)) w.heap.size 1 (be 1 n) rfl 5 (by
    have h := Holds.new w 5 #[.int .u8 ((n : Int) % 256)]
    have e : strCells (be 1 n) = [.int .u8 ((n : Int) % 256)] := by
      rw [← be_byte0]
      rfl
    rw [e]
    exact h)
  go_enter Tryz.func101, Tryz.ntmps101
  go_wp2
  go_ret
  exact ⟨rfl, (Below.refl _ _).alloc (Nat.le_refl _) _⟩

theorem U16_any (n : Nat) (w : World) : Calls Tryz.prog 102 #[.int .i64 (n : Int)] w fun e w' => e = .returned (.string (be 2 n)) ∧ Below w.heap.size w w' := by
  have hcv := row_text (w.alloc (.cells #[.int .u8 ((n : Int) / 256 % 256), .int .u8 ((n : Int) % 256)] 5)) w.heap.size 2 (be 2 n) rfl 5 (by
    have h := Holds.new w 5 #[.int .u8 ((n : Int) / 256 % 256), .int .u8 ((n : Int) % 256)]
    have e : strCells (be 2 n) = [.int .u8 ((n : Int) / 256 % 256), .int .u8 ((n : Int) % 256)] := by
      have f1 : (n : Int) / 256 % 256 = _ := (be_byte n 1).symm
      rw [f1, ← be_byte0]
      rfl
    rw [e]
    exact h)
  go_enter Tryz.func102, Tryz.ntmps102
  go_wp2
  go_ret
  exact ⟨rfl, (Below.refl _ _).alloc (Nat.le_refl _) _⟩

theorem U32_any (n : Nat) (w : World) : Calls Tryz.prog 100 #[.int .i64 (n : Int)] w fun e w' => e = .returned (.string (be 4 n)) ∧ Below w.heap.size w w' := by
  have hcv := row_text (w.alloc (.cells #[.int .u8 ((n : Int) / 16777216 % 256), .int .u8 ((n : Int) / 65536 % 256), .int .u8 ((n : Int) / 256 % 256), .int .u8 ((n : Int) % 256)] 5)) w.heap.size 4 (be 4 n) rfl 5 (by
    have h := Holds.new w 5 #[.int .u8 ((n : Int) / 16777216 % 256), .int .u8 ((n : Int) / 65536 % 256), .int .u8 ((n : Int) / 256 % 256), .int .u8 ((n : Int) % 256)]
    have e : strCells (be 4 n) = [.int .u8 ((n : Int) / 16777216 % 256), .int .u8 ((n : Int) / 65536 % 256), .int .u8 ((n : Int) / 256 % 256), .int .u8 ((n : Int) % 256)] := by
      have f3 : (n : Int) / 16777216 % 256 = _ := (be_byte n 3).symm
      have f2 : (n : Int) / 65536 % 256 = _ := (be_byte n 2).symm
      have f1 : (n : Int) / 256 % 256 = _ := (be_byte n 1).symm
      rw [f3, f2, f1, ← be_byte0]
      rfl
    rw [e]
    exact h)
  go_enter Tryz.func100, Tryz.ntmps100
  go_wp2
  go_ret
  exact ⟨rfl, (Below.refl _ _).alloc (Nat.le_refl _) _⟩

end Go.Proofs.YtmgaegaibglnhaaGreat
