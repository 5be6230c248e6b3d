/- A digest's bytes, one by one; pieces of a text. No function of the program is named here. -/
import Derived.Test.YtenfhmpjhbpkpaaBlkAll
import Derived.Test.YtenfhmpjhbpkpaaShaSum
namespace Go.Proofs.Ytenfhmpjhbpkpaa
open Go.RowKit
attribute [local irreducible] Sha.compress Sha.blocks Sha.sha

theorem extract_list (x : ByteArray) (a b : Nat) : (x.extract a b).data.toList = (x.data.toList.drop a).take (b - a) := by
  rw [ByteArray.data_extract, Array.toList_extract, List.extract_eq_take_drop]

theorem extract_size (x : ByteArray) (a n : Nat) (h : a + n ≤ x.size) : (x.extract a (a + n)).size = n := by
  rw [ByteArray.size_extract]
  omega

/-- The cells of a hash of which i bytes are written. -/
def outC (t : List UInt8) (i : Nat) : List Value := byteCells (t.take i) ++ List.replicate (32 - i) (.int .u8 0)

theorem outC_get (t : List UInt8) (ht : t.length = 32) (i : Nat) (hi : i < 32) : (outC t i)[i]? = some (.int .u8 0) := by
  unfold outC
  have hl : (byteCells (t.take i)).length = i := by rw [byteCells_length, List.length_take]; omega
  rw [List.getElem?_append_right (by omega), hl, Nat.sub_self, List.getElem?_replicate, if_pos (by omega)]

theorem outC_set (t : List UInt8) (ht : t.length = 32) (i : Nat) (hi : i < 32) : (outC t i).set i (.int .u8 ((t.getD i 0).toNat : Int)) = outC t (i + 1) := by
  have hl : (byteCells (t.take i)).length = i := by rw [byteCells_length, List.length_take]; omega
  have hit : i < t.length := by omega
  unfold outC
  rw [List.set_append_right _ _ (by omega), hl, Nat.sub_self, show 32 - i = (32 - (i + 1)) + 1 by omega, List.replicate_succ, List.set_cons_zero, List.take_succ_eq_append_getElem hit]
  have e : t.getD i 0 = t[i] := by simp [hit]
  have e2 : byteCells (t.take i ++ [t[i]]) = byteCells (t.take i) ++ [.int .u8 (t[i].toNat : Int)] := by
    unfold byteCells
    rw [List.map_append]
    rfl
  rw [e, e2, List.append_assoc, List.singleton_append]

theorem outC_zero (t : List UInt8) : outC t 0 = z32.toList := by
  simp [outC, byteCells, z32]

theorem outC_all (t : List UInt8) (ht : t.length = 32) : outC t 32 = byteCells t := by
  unfold outC
  rw [List.take_of_length_le (by omega)]
  simp

theorem s8_bytes_length (s : Sha.S8) : s.bytes.length = 32 := by simp [Sha.S8.bytes, bytes_length]

theorem four {k : Nat} (h : k < 4) : k = 0 ∨ k = 1 ∨ k = 2 ∨ k = 3 := by omega

theorem s8_byte (s : Sha.S8) (a b : Nat) (ha : a < 8) (hb : b < 4) : u (s.list.getD a 0) / 2 ^ (24 - 8 * b) % 256 = ((s.bytes.getD (4 * a + b) 0).toNat : Int) := by
  rw [word_byte _ b hb]
  rcases eight ha with rfl | rfl | rfl | rfl | rfl | rfl | rfl | rfl <;> rcases four hb with rfl | rfl | rfl | rfl <;> rfl

/-- A text that is padded: what stands behind its whole blocks. -/
def padRest (x : ByteArray) : ByteArray := x.extract (64 * (x.size / 64)) x.size ++ ⟨#[128]⟩

theorem padRest_size (x : ByteArray) : (padRest x).size = x.size % 64 + 1 := by
  unfold padRest
  rw [ByteArray.size_append, ByteArray.size_extract]
  have : (ByteArray.mk #[128]).size = 1 := rfl
  omega

def padAll (x : ByteArray) : ByteArray := padRest x ++ zeroS ((120 - (x.size % 64 + 1) % 64) % 64) ++ be 8 (x.size * 8)

theorem beL_be (n k : Nat) : Sha.be n k = beL n k := rfl

theorem pad_is (x : ByteArray) : Sha.pad x.data.toList = x.data.toList.take (64 * (x.size / 64)) ++ (padAll x).data.toList := by
  have hl : x.data.toList.length = x.size := data_length x
  unfold Sha.pad padAll padRest
  rw [ByteArray.data_append, ByteArray.data_append, ByteArray.data_append, Array.toList_append, Array.toList_append, Array.toList_append, extract_list, hl]
  rw [List.take_of_length_le (l := x.data.toList.drop (64 * (x.size / 64))) (by rw [List.length_drop, hl]; omega)]
  have e : (120 - (x.size + 1) % 64) % 64 = (120 - (x.size % 64 + 1) % 64) % 64 := by omega
  rw [e, Nat.mul_comm 8 x.size, beL_be]
  simp only [← List.append_assoc]
  rw [List.take_append_drop]
  rfl

theorem padAll_size (x : ByteArray) : ∃ p, p ≤ 3 ∧ (padAll x).size = 64 * p ∧ (Sha.pad x.data.toList).length / 64 = x.size / 64 + p := by
  have h : (padAll x).size = x.size % 64 + 1 + (120 - (x.size % 64 + 1) % 64) % 64 + 8 := by
    unfold padAll
    rw [ByteArray.size_append, ByteArray.size_append, padRest_size, zeroS_size, be_size]
  have hl : x.data.toList.length = x.size := data_length x
  refine ⟨(padAll x).size / 64, by omega, by omega, ?_⟩
  rw [pad_is, List.length_append, List.length_take, hl, data_length]
  omega

/-- One block more of a padded text. -/
theorem pad_block (x : ByteArray) (j : Nat) : Sha.blocks (Sha.pad x.data.toList) (x.size / 64 + (j + 1)) = Sha.compress (Sha.blocks (Sha.pad x.data.toList) (x.size / 64 + j)) ((padAll x).extract (64 * j) (64 * j + 64)).data.toList := by
  have hl : x.data.toList.length = x.size := data_length x
  rw [← Nat.add_assoc, Sha.blocks_succ, extract_list, Nat.add_sub_cancel_left]
  congr 2
  have e : 64 * (x.size / 64 + j) = (x.data.toList.take (64 * (x.size / 64))).length + 64 * j := by
    rw [List.length_take, hl]
    omega
  rw [e]
  conv => lhs; rw [pad_is, ← List.drop_drop, List.drop_left]

theorem pad_first (x : ByteArray) : Sha.blocks x.data.toList (x.size / 64) = Sha.blocks (Sha.pad x.data.toList) (x.size / 64) := by
  have hl : x.data.toList.length = x.size := data_length x
  unfold Sha.pad
  rw [List.append_assoc, List.append_assoc, Sha.blocks_more _ _ _ (by rw [hl]; omega)]

theorem text_block (x : ByteArray) (j : Nat) : Sha.blocks x.data.toList (j + 1) = Sha.compress (Sha.blocks x.data.toList j) (x.extract (64 * j) (64 * j + 64)).data.toList := by
  rw [Sha.blocks_succ, extract_list, Nat.add_sub_cancel_left]

end Go.Proofs.Ytenfhmpjhbpkpaa
