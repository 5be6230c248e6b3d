/- Layer 2, as plain functions: what a tag's digest is made of. No function of the program is named here. -/
import Derived.Test.YtmgaegaibglnhaaGreatShaFin
import Derived.Test.YtmgaegaibglnhaaGreatTexts
namespace Go.Proofs.YtmgaegaibglnhaaGreat
open Go.RowKit

/-- The sizes of texts, in all. -/
def totS : List ByteArray → Nat
  | [] => 0
  | x :: xs => x.size + totS xs

theorem totS_append (xs ys : List ByteArray) : totS (xs ++ ys) = totS xs + totS ys := by
  induction xs with
  | nil => simp [totS]
  | cons x xs ih => simp [totS, ih, Nat.add_assoc]

theorem totS_take (xs : List ByteArray) (k : Nat) : totS (xs.take k) ≤ totS xs := by
  conv => rhs; rw [← List.take_append_drop k xs]
  rw [totS_append]
  omega

theorem take_next {xs : List ByteArray} {k : Nat} {x : ByteArray} (h : xs[k]? = some x) : xs.take (k + 1) = xs.take k ++ [x] := by
  obtain ⟨hk, he⟩ := List.getElem?_eq_some_iff.1 h
  rw [List.take_succ_eq_append_getElem hk, he]

theorem totS_next {xs : List ByteArray} {k : Nat} {x : ByteArray} (h : xs[k]? = some x) : totS (xs.take (k + 1)) = totS (xs.take k) + x.size := by
  rw [take_next h, totS_append]
  simp [totS]

theorem totS_size {xs : List ByteArray} {x : ByteArray} (h : x ∈ xs) : x.size ≤ totS xs := by
  induction xs with
  | nil => cases h
  | cons y ys ih =>
    simp only [totS]
    rcases List.mem_cons.1 h with rfl | h
    · omega
    · have := ih h
      omega

/-- The bytes of a text. -/
def bytesOf (x : ByteArray) : List UInt8 := x.data.toList

/-- What each part puts down: its length's four bytes, itself. -/
def partL (x : ByteArray) : List UInt8 := beL 4 x.size ++ x.data.toList

/-- What is digested. -/
def tagL (t : Nat) (xs : List ByteArray) : List UInt8 := UInt8.ofNat t :: xs.flatMap partL

theorem tagL_next {t : Nat} {xs : List ByteArray} {k : Nat} {x : ByteArray} (h : xs[k]? = some x) : tagL t (xs.take (k + 1)) = tagL t (xs.take k) ++ beL 4 x.size ++ x.data.toList := by
  unfold tagL
  rw [take_next h, List.flatMap_append]
  simp [partL]

theorem tagL_length (t : Nat) (xs : List ByteArray) : (tagL t xs).length = 1 + 4 * xs.length + totS xs := by
  unfold tagL
  rw [List.length_cons]
  have : (xs.flatMap partL).length = 4 * xs.length + totS xs := by
    induction xs with
    | nil => rfl
    | cons x xs ih =>
      rw [List.flatMap_cons, List.length_append, ih]
      simp only [partL, List.length_append, beL_length, totS, List.length_cons]
      have := data_length x
      omega
  omega

/-- May they be digested: one of the five tags, no more than may be? -/
def tagMay (t : Int) (xs : List ByteArray) : Bool := decide (0 ≤ t ∧ t ≤ 4 ∧ totS xs ≤ 65536)

/-- What tag.Sum answers: the digest's value, the error. -/
def tagAns (t : Int) (xs : List ByteArray) : Value × Int := if tagMay t xs = true then (hashV (tagL t.toNat xs), 0) else (.agg z32, 200)

end Go.Proofs.YtmgaegaibglnhaaGreat
