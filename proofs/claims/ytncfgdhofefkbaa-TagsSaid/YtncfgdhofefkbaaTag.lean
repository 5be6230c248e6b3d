/- Layer 2, the program's side: a number's bytes, the parts' sizes. -/
import Derived.Test.YtncfgdhofefkbaaTagP
import Derived.Test.YtncfgdhofefkbaaTwo
namespace Go.Proofs.Ytncfgdhofefkbaa
open Go.RowKit
open Go.Lib (strCells strCells_length strCells_oneCell)

/-- A slice of bytes as a text. -/
theorem row_text (w : World) (g n : Nat) (s : ByteArray) (hn : n = s.size) (h : Holds w g 5 (strCells s)) : (convert 35 9 (.slice (some ⟨g, 0, none⟩) n n)).run Try.prog w = .ok (.string s) w :=
  run_convert_block (P := Try.prog) (w := w) (e := 5) (n := n) (c := n) 35 9 Try.underlying35 Try.underlying5 Try.underlying9 hn h rfl

/-- A text of one byte. -/
def oneB (t : Nat) : ByteArray := ⟨#[UInt8.ofNat t]⟩

theorem byte_small (t : Nat) (h : t < 256) : ((UInt8.ofNat t).toNat : Int) = (t : Int) := by
  rw [UInt8.toNat_ofNat']
  omega

theorem U8_any (t : Nat) (ht : t < 256) (w : World) : Calls Try.prog 39 #[.int .i64 (t : Int)] w fun e w' => e = .returned (.string (oneB t)) ∧ Below w.heap.size w w' := by
  have hmod : (t : Int) % 256 = (t : Int) := by omega
  have hcv := row_text (w.alloc (.cells #[.int .u8 (t : Int)] 5)) w.heap.size 1 (oneB t) rfl (by
    have h := Holds.new w 5 #[.int .u8 (t : Int)]
    have e : strCells (oneB t) = [.int .u8 (t : Int)] := by
      rw [← byte_small t ht]
      rfl
    rw [e]
    exact h)
  go_enter Try.func39, Try.ntmps39
  go_wp2
  go_ret
  exact ⟨rfl, (Below.refl _ _).alloc (Nat.le_refl _) _⟩

theorem be_byte (n k : Nat) : ((UInt8.ofNat (n / 256 ^ k)).toNat : Int) = (n : Int) / 256 ^ k % 256 := by
  rw [UInt8.toNat_ofNat', Int.natCast_emod, Int.natCast_ediv, Int.natCast_pow]
  rfl

theorem U32_any (n : Nat) (w : World) : Calls Try.prog 40 #[.int .i64 (n : Int)] w fun e w' => e = .returned (.string (be 4 n)) ∧ Below w.heap.size w w' := by
  have hcv := row_text (w.alloc (.cells #[.int .u8 ((n : Int) / 16777216 % 256), .int .u8 ((n : Int) / 65536 % 256), .int .u8 ((n : Int) / 256 % 256), .int .u8 ((n : Int) % 256)] 5)) w.heap.size 4 (be 4 n) rfl (by
    have h := Holds.new w 5 #[.int .u8 ((n : Int) / 16777216 % 256), .int .u8 ((n : Int) / 65536 % 256), .int .u8 ((n : Int) / 256 % 256), .int .u8 ((n : Int) % 256)]
    have e : strCells (be 4 n) = [.int .u8 ((n : Int) / 16777216 % 256), .int .u8 ((n : Int) / 65536 % 256), .int .u8 ((n : Int) / 256 % 256), .int .u8 ((n : Int) % 256)] := by
      have e3 := be_byte n 3
      have e2 := be_byte n 2
      have e1 := be_byte n 1
      have e0 := be_byte n 0
      have q0 : (n : Int) / 256 ^ 0 = n := by simp
      rw [q0] at e0
      have f3 : (n : Int) / 16777216 % 256 = _ := e3.symm
      have f2 : (n : Int) / 65536 % 256 = _ := e2.symm
      have f1 : (n : Int) / 256 % 256 = _ := e1.symm
      rw [f3, f2, f1, ← e0]
      rfl
    rw [e]
    exact h)
  go_enter Try.func40, Try.ntmps40
  go_wp2
  go_ret
  exact ⟨rfl, (Below.refl _ _).alloc (Nat.le_refl _) _⟩

set_option maxHeartbeats 400000 in
theorem tooLong_any (A : Option Addr) (n c : Nat) (xs : List ByteArray) (B : Nat) (w : World) (h : Texts w B A n xs) (hn : n ≤ 100000000000000) (hs : ∀ s ∈ xs, s.size ≤ 140737488351232) :
    Calls Try.prog 30 #[.slice A n c] w fun e w' => e = .returned (.bool (decide (65536 < totS xs))) ∧ w' = w := by
  have hlen := hid h.len
  go_enter Try.func30, Try.ntmps30
  go_wp2
  go_loopw [3, 8] (fun v i wr => ∃ k : Nat, k ≤ n ∧ totS (xs.take k) ≤ 65536 ∧ i = .int .i64 (k : Int) ∧ v = .int .i64 (65536 - (totS (xs.take k) : Int)) ∧ wr = w) (fun _ i _ => n - (intOf i).toNat)
  case atStart => exact ⟨0, Nat.zero_le _, by simp [totS], rfl, by simp [totS], rfl⟩
  case round =>
    obtain ⟨k, hk, ht, rfl, rfl, rfl⟩ := hrel
    by_cases hlt : k < n
    · obtain ⟨p, rfl, hB, x, hxm, hx, hc⟩ := h.get hlt
      have hxs := hs x hxm
      have hnx := totS_next hx
      have hle := totS_take xs (k + 1)
      have hkn : (k : Int) < (n : Int) := by omega
      have s1 := IntWalk.i64_in (65536 - (totS (xs.take k) : Int) - (x.size : Int)) (by omega)
      have hnx' := hid hnx
      have hle' := hid hle
      generalize totS (xs.take k) = T at *
      clear hx hnx hle
      by_cases hneg : 65536 - (T : Int) - (x.size : Int) < 0
      · go_wp2
        go_ret
        refine ⟨congrArg (fun b => Ending.returned (.bool b)) (Eq.symm (decide_eq_true ?_)), rfl⟩
        have h1 := hnx'.out
        have h2 := hle'.out
        omega
      · go_wp2
        go_roundw
        case rel =>
          have h1 := hnx'.out
          exact ⟨k + 1, by omega, by omega, by go_num, congrArg (Value.int .i64) (by omega), trivial⟩
        case measure => simp [intOf]; omega
    · obtain rfl : k = n := by omega
      have e : xs.take k = xs := List.take_of_length_le (by rw [hlen.out]; exact Nat.le_refl _)
      rw [e] at ht ⊢
      go_wp2
      go_ret
      exact ⟨congrArg (fun b => Ending.returned (.bool b)) (Eq.symm (decide_eq_false (by omega))), rfl⟩

/-- tag.pieces: its arguments in boxes, and the function value that has them. -/
theorem pieces_any (t : Int) (A : Option Addr) (n c : Nat) (w : World) : Calls Try.prog 31 #[.int .i64 t, .slice A n c] w fun e w' =>
    e = .returned (.func (.func 38) #[] #[.pointer (some ⟨w.heap.size, 0, none⟩), .pointer (some ⟨w.heap.size + 1, 0, none⟩)]) ∧
      w' = (w.alloc (.cells #[.int .i64 t] 3)).alloc (.cells #[.slice A n c] 22) := by
  go_enter Try.func31, Try.ntmps31
  go_wp2
  go_ret
  exact ⟨rfl, rfl⟩

end Go.Proofs.Ytncfgdhofefkbaa
