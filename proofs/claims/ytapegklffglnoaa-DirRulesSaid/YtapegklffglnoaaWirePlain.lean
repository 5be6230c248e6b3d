/- What layer 3 writes and reads, as plain functions on texts. No function of the program is named here. -/
import Derived.Test.YtapegklffglnoaaBytes
namespace Go.Proofs.Ytapegklffglnoaa
open Go.RowKit

/-- Numbers of one, two, four bytes. -/
def isSizeB (size : Int) : Bool := decide (size = 1 ∨ size = 2 ∨ size = 4)
def fitsB (x size : Int) : Bool := isSizeB size && decide (0 ≤ x ∧ x < 256 ^ size.toNat)

theorem isSizeB_cases {size : Int} (h : isSizeB size = true) : size = 1 ∨ size = 2 ∨ size = 4 := of_decide_eq_true h
theorem isSizeB_no {size : Int} (h : isSizeB size = false) : size ≠ 1 ∧ size ≠ 2 ∧ size ≠ 4 := by
  have := of_decide_eq_false h
  omega
theorem fitsB_yes {x size : Int} (h : fitsB x size = true) : isSizeB size = true ∧ 0 ≤ x ∧ x < 256 ^ size.toNat := by
  simp only [fitsB, Bool.and_eq_true, decide_eq_true_eq] at h
  exact ⟨h.1, h.2.1, h.2.2⟩
theorem fitsB_mk {x size : Int} (h1 : isSizeB size = true) (h2 : 0 ≤ x) (h3 : x < 256 ^ size.toNat) : fitsB x size = true := by
  simp [fitsB, h1, h2, h3]
theorem fitsB_no {x size : Int} (h : fitsB x size = false) (hs : isSizeB size = true) : x < 0 ∨ 256 ^ size.toNat ≤ x := by
  simp only [fitsB, hs, Bool.true_and, decide_eq_false_iff_not] at h
  omega

theorem size_lt {size : Int} (h : isSizeB size = true) : 1 ≤ size ∧ size ≤ 4 ∧ (256 : Int) ^ size.toNat ≤ 4294967296 := by
  rcases isSizeB_cases h with rfl | rfl | rfl <;> exact ⟨by decide, by decide, by decide⟩

def numPiece (x size : Int) : Option ByteArray := if fitsB x size then some (be size.toNat x.toNat) else none
def textPiece (t : ByteArray) (size : Int) : Option ByteArray := if fitsB t.size size then some (be size.toNat t.size ++ t) else none

/-- What is held then, and the error's number. -/
def addPiece (s : ByteArray) : Option ByteArray → ByteArray × Int
  | none => (s, 301)
  | some p => if s.size + p.size ≤ 65536 then (s ++ p, 0) else (s, 302)

theorem addPiece_none (s : ByteArray) : addPiece s none = (s, 301) := rfl
theorem addPiece_fits {s p : ByteArray} (h : s.size + p.size ≤ 65536) : addPiece s (some p) = (s ++ p, 0) := by simp [addPiece, h]
theorem addPiece_long {s p : ByteArray} (h : ¬ s.size + p.size ≤ 65536) : addPiece s (some p) = (s, 302) := by simp [addPiece, h]

theorem addPiece_size {s s' : ByteArray} {p : Option ByteArray} {k : Int} (h : addPiece s p = (s', k)) (hs : s.size ≤ 65536) : s'.size ≤ 65536 := by
  unfold addPiece at h
  split at h
  · cases h; exact hs
  · split at h
    · cases h
      rw [size_append]
      assumption
    · cases h; exact hs

/-- Reading a number: its value, the error's number, what is left. -/
def readNum (s : ByteArray) (size : Int) : Int × Int × ByteArray :=
  if isSizeB size then
    if (s.size : Int) < size then (0, 300, s) else ((num (s.extract 0 size.toNat) : Int), 0, s.extract size.toNat s.size)
  else (0, 301, s)

def readText (s : ByteArray) (size : Int) : ByteArray × Int × ByteArray :=
  if (readNum s size).2.1 = 0 then
    if ((readNum s size).2.2.size : Int) < (readNum s size).1 then (ByteArray.empty, 300, s)
    else ((readNum s size).2.2.extract 0 (readNum s size).1.toNat, 0, (readNum s size).2.2.extract (readNum s size).1.toNat (readNum s size).2.2.size)
  else (ByteArray.empty, (readNum s size).2.1, s)

theorem readNum_form {s : ByteArray} {size : Int} (h : isSizeB size = false) : readNum s size = (0, 301, s) := by simp [readNum, h]
theorem readNum_cut {s : ByteArray} {size : Int} (h : isSizeB size = true) (h' : (s.size : Int) < size) : readNum s size = (0, 300, s) := by simp [readNum, h, h']
theorem readNum_ok {s : ByteArray} {size : Int} (h : isSizeB size = true) (h' : ¬ (s.size : Int) < size) : readNum s size = ((num (s.extract 0 size.toNat) : Int), 0, s.extract size.toNat s.size) := by
  simp only [readNum, h, h', if_true, if_false]

theorem extract_size (s : ByteArray) (a b : Nat) : (s.extract a b).size = min b s.size - a := by simp

theorem num_cut_lt {s : ByteArray} {size : Int} (h : isSizeB size = true) : (num (s.extract 0 size.toNat) : Int) < 4294967296 := by
  have h1 := num_lt (s.extract 0 size.toNat)
  have h2 : (s.extract 0 size.toNat).size ≤ 4 := by
    rw [extract_size]
    have := size_lt h
    omega
  have h3 : 256 ^ (s.extract 0 size.toNat).size ≤ 256 ^ 4 := Nat.pow_le_pow_right (by omega) h2
  have h4 : (256 : Nat) ^ 4 = 4294967296 := by decide
  omega

theorem readText_err {s : ByteArray} {size : Int} {x k : Int} {l : ByteArray} (h : readNum s size = (x, k, l)) (hk : k ≠ 0) : readText s size = (ByteArray.empty, k, s) := by
  simp [readText, h, hk]
theorem readText_cut {s : ByteArray} {size : Int} {x : Int} {l : ByteArray} (h : readNum s size = (x, 0, l)) (hk : (l.size : Int) < x) : readText s size = (ByteArray.empty, 300, s) := by
  simp [readText, h, hk]
theorem readText_ok {s : ByteArray} {size : Int} {x : Int} {l : ByteArray} (h : readNum s size = (x, 0, l)) (hk : ¬ (l.size : Int) < x) : readText s size = (l.extract 0 x.toNat, 0, l.extract x.toNat l.size) := by
  simp [readText, h, hk]

/-- Thirty-two bytes. -/
def noHash : ByteArray := ⟨Array.replicate 32 0⟩
def readHash (s : ByteArray) : ByteArray × Int × ByteArray := if s.size < 32 then (noHash, 300, s) else (s.extract 0 32, 0, s.extract 32 s.size)

/-- What stands at the end of four bytes. -/
theorem be_extract (x : Nat) (size : Nat) (h : size = 1 ∨ size = 2 ∨ size = 4) : (be 4 x).extract (4 - size) 4 = be size x := by
  apply bytes_ext
  rw [be, ByteArray.extract_mk, mk_data, be, mk_data]
  rcases h with rfl | rfl | rfl
  · simp [beL, List.range_succ]
  · simp [beL, List.range_succ]
  · simp [beL, List.range_succ]

/-- Reading what was written. -/
theorem extract_left (a b : ByteArray) (n : Nat) (h : a.size = n) : (a ++ b).extract 0 n = a := by
  subst h
  apply bytes_ext
  rw [ByteArray.data_extract, Array.toList_extract, data_append]
  simp only [List.extract, List.drop_zero, Nat.sub_zero]
  rw [← data_length, List.take_left]
theorem extract_right (a b : ByteArray) (n : Nat) (h : a.size = n) : (a ++ b).extract n (a ++ b).size = b := by
  subst h
  apply bytes_ext
  rw [ByteArray.data_extract, Array.toList_extract, data_append, size_append]
  simp only [List.extract]
  rw [← data_length a, List.drop_left, Nat.add_sub_cancel_left, ← data_length b, List.take_length]

theorem readNum_back (x size : Int) (r : ByteArray) (h : fitsB x size = true) : readNum (be size.toNat x.toNat ++ r) size = (x, 0, r) := by
  obtain ⟨h1, h2, h3⟩ := fitsB_yes h
  have hs := size_lt h1
  rw [readNum_ok h1 (by rw [size_append, be_size]; omega), extract_left _ _ _ (be_size ..), extract_right _ _ _ (be_size ..), num_be]
  · rw [Int.toNat_of_nonneg h2]
  · have : ((x.toNat : Nat) : Int) < ((256 ^ size.toNat : Nat) : Int) := by
      rw [Int.toNat_of_nonneg h2]
      simpa using h3
    omega

theorem readText_back (t : ByteArray) (size : Int) (r : ByteArray) (h : fitsB t.size size = true) : readText (be size.toNat t.size ++ t ++ r) size = (t, 0, r) := by
  have h1 : readNum (be size.toNat t.size ++ t ++ r) size = ((t.size : Int), 0, t ++ r) := by
    have := readNum_back (t.size : Int) size (t ++ r) h
    rwa [append_assoc]
  rw [readText_ok h1 (by rw [size_append]; omega), Int.toNat_natCast, extract_left _ _ _ rfl, extract_right _ _ _ rfl]

theorem readHash_back (h r : ByteArray) (hs : h.size = 32) : readHash (h ++ r) = (h, 0, r) := by
  unfold readHash
  rw [if_neg (by rw [size_append]; omega), extract_left _ _ _ hs, extract_right _ _ _ hs]

end Go.Proofs.Ytapegklffglnoaa
