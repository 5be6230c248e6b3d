/- Texts that a statement is handed: a []string.
   Layer 2, as plain functions: what a tag's digest is made of. No function of the program is named here. -/
import Derived.Test.YtmfajekfipfjpaaRows
import Derived.Test.YtmfajekfipfjpaaBytes
import Derived.ChangeArms
import Derived.OpenShut
import Derived.DataReads
import Derived.Deep.Slices
import Derived.ProofKit
import Derived.ChangeOld
import Derived.SizedLaws
import Derived.Test.YtmfajekfipfjpaaShaFin
namespace Go.Proofs.Ytmfajekfipfjpaa
open Go.RowKit

/-- The cells of a list of texts. -/
def strs (xs : List ByteArray) : List Value := xs.map Value.string

theorem strs_length (xs : List ByteArray) : (strs xs).length = xs.length := by simp [strs]
/-- The slice at A reads as these texts. -/
def Texts (w : World) (B : Nat) (A : Option Addr) (n : Nat) (xs : List ByteArray) : Prop := At w B 1 A n (strs xs)

section
variable {w w' : World} {B B' n : Nat} {A : Option Addr} {xs : List ByteArray}

theorem Texts.len (h : Texts w B A n xs) : xs.length = n := by
  have h' := At.len h
  rw [strs_length] at h'
  omega

theorem Texts.below (h : Texts w B A n xs) (hb : Below B w w') : Texts w' B A n xs := At.below h hb
theorem Texts.more (h : Texts w B A n xs) (hB : B ≤ B') : Texts w B' A n xs := At.more h hB
theorem Texts.drewN (h : Texts w B A n xs) (k : Nat) : Texts (w.drewN k) B A n xs := h
theorem Texts.drew (h : Texts w B A n xs) : Texts w.drew B A n xs := h
theorem Texts.alloc (h : Texts w B A n xs) (hB : B ≤ w.heap.size) (o : Obj) : Texts (w.alloc o) B A n xs := At.alloc h hB o

theorem Texts.get (h : Texts w B A n xs) {k : Nat} (hk : k < n) : ∃ p, A = some p ∧ p.block < B ∧ ∃ x, x ∈ xs ∧ xs[k]? = some x ∧ w.cell? (p.add k) = some (.string x) := by
  obtain ⟨p, v, hA, hB, hv, hc⟩ := At.get h hk
  have hl := h.len
  have hk' : k < xs.length := by omega
  refine ⟨p, hA, hB, xs[k], List.getElem_mem _, List.getElem?_eq_getElem hk', ?_⟩
  rw [hc, ← hv]
  simp [strs, List.getElem?_eq_getElem hk']

end

section
variable {H : Type} {enc : TypeId × Value → H} {w : World} {base : Nat} {spare : Nat → Bool} {held : Bool}
open Go.ChangeShapes Go.WideShapes Go.Deep

end

end Go.Proofs.Ytmfajekfipfjpaa
namespace Go.Proofs.Ytmfajekfipfjpaa
open Go.RowKit

/-- The sizes of texts, in all. -/
def totS : List ByteArray → Nat
  | [] => 0
  | x :: xs => x.size + totS xs

theorem totS_append (xs ys : List ByteArray) : totS (xs ++ ys) = totS xs + totS ys := by
  induction xs with
  | nil => simp [totS]
  | cons x xs ih => simp [totS, ih, Nat.add_assoc]

theorem totS_take (xs : List ByteArray) (k : Nat) : totS (xs.take k) ≤ totS xs := by
  conv => rhs; rw [← List.take_append_drop k xs]
  rw [totS_append]
  omega

theorem take_next {xs : List ByteArray} {k : Nat} {x : ByteArray} (h : xs[k]? = some x) : xs.take (k + 1) = xs.take k ++ [x] := by
  obtain ⟨hk, he⟩ := List.getElem?_eq_some_iff.1 h
  rw [List.take_succ_eq_append_getElem hk, he]

theorem totS_next {xs : List ByteArray} {k : Nat} {x : ByteArray} (h : xs[k]? = some x) : totS (xs.take (k + 1)) = totS (xs.take k) + x.size := by
  rw [take_next h, totS_append]
  simp [totS]

theorem totS_size {xs : List ByteArray} {x : ByteArray} (h : x ∈ xs) : x.size ≤ totS xs := by
  induction xs with
  | nil => cases h
  | cons y ys ih =>
    simp only [totS]
    rcases List.mem_cons.1 h with rfl | h
    · omega
    · have := ih h
      omega

/-- What each part puts down: its length's four bytes, itself. -/
def partL (x : ByteArray) : List UInt8 := beL 4 x.size ++ x.data.toList

/-- What is digested. -/
def tagL (t : Nat) (xs : List ByteArray) : List UInt8 := UInt8.ofNat t :: xs.flatMap partL

theorem tagL_length (t : Nat) (xs : List ByteArray) : (tagL t xs).length = 1 + 4 * xs.length + totS xs := by
  unfold tagL
  rw [List.length_cons]
  have : (xs.flatMap partL).length = 4 * xs.length + totS xs := by
    induction xs with
    | nil => rfl
    | cons x xs ih =>
      rw [List.flatMap_cons, List.length_append, ih]
      simp only [partL, List.length_append, beL_length, totS, List.length_cons]
      have := data_length x
      omega
  omega

/-- May they be digested: one of the five tags, no more than may be? -/
def tagMay (t : Int) (xs : List ByteArray) : Bool := decide (0 ≤ t ∧ t ≤ 4 ∧ totS xs ≤ 65536)

/-- What tag.Sum answers: the digest's value, the error. -/
def tagAns (t : Int) (xs : List ByteArray) : Value × Int := if tagMay t xs = true then (hashV (tagL t.toNat xs), 0) else (.agg z32, 200)

end Go.Proofs.Ytmfajekfipfjpaa
