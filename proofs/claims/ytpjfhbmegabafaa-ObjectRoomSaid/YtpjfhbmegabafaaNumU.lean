/- Numbers as bytes: package num. -/
import Derived.Test.YtpjfhbmegabafaaTagP
import Derived.Test.YtpjfhbmegabafaaTools
import Derived.Test.YtpjfhbmegabafaaHashR
namespace Go.Proofs.Ytpjfhbmegabafaa
open Go.RowKit
open Go.Lib (strCells strCells_length strCells_oneCell)

/-- A slice of bytes as a text. -/
theorem row_text (w : World) (g n : Nat) (s : ByteArray) (hn : n = s.size) (t : TypeId) (h : Holds w g t (strCells s)) : (convert 51 9 (.slice (some ⟨g, 0, none⟩) n n)).run Try.prog w = .ok (.string s) w :=
  run_convert_block (P := Try.prog) (w := w) (e := 5) (n := n) (c := n) 51 9 Try.underlying51 Try.underlying5 Try.underlying9 hn h rfl

theorem be_byte (n k : Nat) : ((UInt8.ofNat (n / 256 ^ k)).toNat : Int) = (n : Int) / 256 ^ k % 256 := by
  rw [UInt8.toNat_ofNat', Int.natCast_emod, Int.natCast_ediv, Int.natCast_pow]
  rfl

theorem be_byte0 (n : Nat) : ((UInt8.ofNat (n / 256 ^ 0)).toNat : Int) = (n : Int) % 256 := by
  have e := be_byte n 0
  have q0 : (n : Int) / 256 ^ 0 = n := by simp
  rw [q0] at e
  exact e

theorem U8_any (n : Nat) (w : World) : Calls Try.prog 68 #[.int .i64 (n : Int)] w fun e w' => e = .returned (.string (be 1 n)) ∧ Below w.heap.size w w' := by
  have hcv := row_text (w.alloc (.cells #[.int .u8 ((n : Int) % 256)] 5)) w.heap.size 1 (be 1 n) rfl 5 (by
    have h := Holds.new w 5 #[.int .u8 ((n : Int) % 256)]
    have e : strCells (be 1 n) = [.int .u8 ((n : Int) % 256)] := by
      rw [← be_byte0]
      rfl
    rw [e]
    exact h)
  go_enter Try.func68, Try.ntmps68
  go_wp2
  go_ret
  exact ⟨rfl, (Below.refl _ _).alloc (Nat.le_refl _) _⟩


theorem U32_any (n : Nat) (w : World) : Calls Try.prog 96 #[.int .i64 (n : Int)] w fun e w' => e = .returned (.string (be 4 n)) ∧ Below w.heap.size w w' := by
  have hcv := row_text (w.alloc (.cells #[.int .u8 ((n : Int) / 16777216 % 256), .int .u8 ((n : Int) / 65536 % 256), .int .u8 ((n : Int) / 256 % 256), .int .u8 ((n : Int) % 256)] 5)) w.heap.size 4 (be 4 n) rfl 5 (by
    have h := Holds.new w 5 #[.int .u8 ((n : Int) / 16777216 % 256), .int .u8 ((n : Int) / 65536 % 256), .int .u8 ((n : Int) / 256 % 256), .int .u8 ((n : Int) % 256)]
    have e : strCells (be 4 n) = [.int .u8 ((n : Int) / 16777216 % 256), .int .u8 ((n : Int) / 65536 % 256), .int .u8 ((n : Int) / 256 % 256), .int .u8 ((n : Int) % 256)] := by
      have f3 : (n : Int) / 16777216 % 256 = _ := (be_byte n 3).symm
      have f2 : (n : Int) / 65536 % 256 = _ := (be_byte n 2).symm
      have f1 : (n : Int) / 256 % 256 = _ := (be_byte n 1).symm
      rw [f3, f2, f1, ← be_byte0]
      rfl
    rw [e]
    exact h)
  go_enter Try.func96, Try.ntmps96
  go_wp2
  go_ret
  exact ⟨rfl, (Below.refl _ _).alloc (Nat.le_refl _) _⟩

end Go.Proofs.Ytpjfhbmegabafaa
