/- Numbers out of texts: num.Of. -/
import Derived.Test.YtmgaegaibglnhaaGreatHashR
import Derived.IntWalk
namespace Go.Proofs.YtmgaegaibglnhaaGreat
open Go.RowKit

theorem numL_next (l : List UInt8) (k : Nat) (b : UInt8) (h : l[k]? = some b) : numL (l.take (k + 1)) = 256 * numL (l.take k) + b.toNat := by
  have e : l.take (k + 1) = l.take k ++ [b] := by rw [List.take_add_one, h]; rfl
  unfold numL
  rw [e, List.foldl_append]
  rfl

theorem or_byte (a : Int) (b : UInt8) (h0 : 0 ≤ a) (h1 : a < 16777216) : bits .or .i64 (a * 256) (b.toNat : Int) = 256 * a + (b.toNat : Int) := by
  obtain ⟨n, rfl⟩ : ∃ n : Nat, a = n := ⟨a.toNat, by omega⟩
  have hb := b.toNat_lt
  have e1 : ((n : Int) * 256) = ((n * 256 : Nat) : Int) := by simp
  show IntKind.i64.wrap ((BitVec.ofInt 64 ((n : Int) * 256) ||| BitVec.ofInt 64 (b.toNat : Int)).toNat : Int) = _
  rw [e1, BitVec.ofInt_natCast, BitVec.ofInt_natCast, BitVec.toNat_or, BitVec.toNat_ofNat, BitVec.toNat_ofNat, Nat.mod_eq_of_lt (by omega), Nat.mod_eq_of_lt (by omega)]
  have e2 : n * 256 ||| b.toNat = n * 256 + b.toNat := by
    have := Nat.two_pow_add_eq_or_of_lt (i := 8) (b := b.toNat) (by omega) n
    rw [Nat.mul_comm]
    simpa using this.symm
  rw [e2, IntWalk.i64_in _ (by omega)]
  omega

set_option maxRecDepth 100000 in
set_option maxHeartbeats 1000000 in
theorem Of_any (s : ByteArray) (w : World) (hs : s.size ≤ 4) : Calls Tryz.prog 175 #[.string s] w fun e w' => e = .returned (.int .i64 (numL s.data.toList : Int)) ∧ w' = w := by
  have hl : s.data.toList.length = s.size := data_length s
  go_enter Tryz.func175, Tryz.ntmps175
  go_wp2_with fail
  go_loopw [7, 3] (fun i x wr => ∃ k : Nat, k ≤ s.size ∧ i = .int .i64 (k : Int) ∧ x = .int .i64 (numL (s.data.toList.take k) : Int) ∧ wr = w) (fun i _ _ => s.size - (intOf i).toNat)
  case atStart => exact ⟨0, Nat.zero_le _, rfl, rfl, rfl⟩
  case round =>
    obtain ⟨k, hk, rfl, rfl, rfl⟩ := hrel
    by_cases hlt : k < s.size
    · have hkn : (k : Int) < (s.size : Int) := by omega
      have hk0 : (0 : Int) ≤ (k : Int) := by omega
      have hix := str_byte s k hlt (k : Int) rfl
      obtain ⟨b, hb⟩ : ∃ b, s.data.toList.getD k 0 = b := ⟨_, rfl⟩
      have hb2 : s.data.toList[k]? = some b := by
        rw [← hb, List.getD, List.getElem?_eq_getElem (by omega)]
        rfl
      rw [hb] at hix
      have hsx : s[k]'hlt = b := by
        rw [← hb]
        have h1 : k < s.data.size := hlt
        simp only [ByteArray.getElem_eq_getElem_data, List.getD]
        rw [Array.getElem?_toList, Array.getElem?_eq_getElem h1]
        rfl
      have hnx := hid (numL_next _ k b hb2)
      have hxl := b.toNat_lt
      have hlt3 : numL (s.data.toList.take k) < 16777216 := by
        have h := numL_lt (s.data.toList.take k)
        rw [List.length_take] at h
        have h3 : min k s.data.toList.length ≤ 3 := by omega
        have := Nat.pow_le_pow_right (n := 256) (by omega) h3
        omega
      generalize numL (s.data.toList.take k) = x at *
      have hor := or_byte (x : Int) b (by omega) (by omega)
      have s1 := IntWalk.i64_in ((x : Int) * 256) (by omega)
      have s3 := IntWalk.i64_in (k : Int) (by omega)
      have s4 := IntWalk.i64_in (b.toNat : Int) (by omega)
      clear hb hb2
      go_wp2_with fail
      go_roundw
      case rel => exact ⟨k + 1, by omega, by go_num, by rw [hnx.out]; exact congrArg (Value.int .i64) (by omega), by first | rfl | trivial⟩
      case measure => simp [intOf]; omega
    · obtain rfl : k = s.size := by omega
      have e : s.data.toList.take s.size = s.data.toList := List.take_of_length_le (by omega)
      rw [e]
      have hno : ¬ (s.size : Int) < (s.size : Int) := by omega
      go_wp2_with fail
      go_ret
      exact ⟨rfl, rfl⟩

end Go.Proofs.YtmgaegaibglnhaaGreat
