/- Inodes: their cells, whether they may be. -/
import Derived.Test.YtapegklffglnoaaCodR
import Derived.Test.YtapegklffglnoaaAts
namespace Go.Proofs.Ytapegklffglnoaa
open Go.RowKit
open Go.Lib (strCells strCells_length strCells_oneCell)

structure Ino where
  num : Int
  kind : Int
  mode : Int
  links : Int
  size : Int
  root : ByteArray

def Ino.cells (i : Ino) : List Value := [.int .i64 i.num, .int .i64 i.kind, .int .i64 i.mode, .int .i64 i.links, .int .i64 i.size] ++ strCells i.root
def Ino.fine (i : Ino) : Prop := i.root.size = 32

theorem Ino.len {i : Ino} (h : i.fine) : i.cells.length = 37 := by
  unfold Ino.cells
  rw [List.length_append, strCells_length, show i.root.size = 32 from h]
  rfl

/-- May it be? -/
def mayB (num kind mode links size : Int) : Bool := decide (1 ≤ num ∧ num ≤ 32 ∧ (kind = 0 ∨ kind = 1) ∧ (mode = 0 ∨ mode = 1) ∧ 1 ≤ links ∧ links ≤ 32 ∧ 0 ≤ size ∧ size ≤ 4096 ∧ (kind = 0 ∨ size = 0))
def Ino.may (i : Ino) : Bool := mayB i.num i.kind i.mode i.links i.size
def MayPost (b : Bool) (w : World) (e : Ending) (w' : World) : Prop := e = .returned (.bool b) ∧ Below w.heap.size w w'

theorem Ino.at_ (i : Ino) : (i.cells.toArray)[0]? = some (.int .i64 i.num) ∧ (i.cells.toArray)[1]? = some (.int .i64 i.kind) ∧ (i.cells.toArray)[2]? = some (.int .i64 i.mode) ∧ (i.cells.toArray)[3]? = some (.int .i64 i.links) ∧ (i.cells.toArray)[4]? = some (.int .i64 i.size) := by
  unfold Ino.cells
  simp

/-- The slice at A reads as these inodes. -/
def Inos (w : World) (B : Nat) (A : Option Addr) (n : Nat) (xs : List Ino) : Prop :=
  xs.length = n ∧ (∀ a ∈ xs, a.fine) ∧ (n = 0 ∨ ∃ p : Addr, A = some p ∧ p.block < B ∧ ∀ i (hi : i < xs.length), ∀ j v, xs[i].cells[j]? = some v → w.cell? ((p.add (i * 37)).add j) = some v)

theorem Inos.below {w w' : World} {B : Nat} {A : Option Addr} {n : Nat} {xs : List Ino} (h : Inos w B A n xs) (hb : Below B w w') : Inos w' B A n xs := by
  obtain ⟨h1, h2, h3⟩ := h
  refine ⟨h1, h2, ?_⟩
  rcases h3 with h3 | ⟨p, hA, hB, hc⟩
  · exact .inl h3
  · exact .inr ⟨p, hA, hB, fun i hi j v hv => (hb.cell (by rw [add_block, add_block]; exact hB)).trans (hc i hi j v hv)⟩

theorem Inos.more {w : World} {B B' : Nat} {A : Option Addr} {n : Nat} {xs : List Ino} (h : Inos w B A n xs) (hB : B ≤ B') : Inos w B' A n xs := by
  obtain ⟨h1, h2, h3⟩ := h
  refine ⟨h1, h2, ?_⟩
  rcases h3 with h3 | ⟨p, hA, hb, hc⟩
  · exact .inl h3
  · exact .inr ⟨p, hA, Nat.lt_of_lt_of_le hb hB, hc⟩

theorem Inos.get {w : World} {B : Nat} {A : Option Addr} {n : Nat} {xs : List Ino} (h : Inos w B A n xs) {k : Nat} (hk : k < n) : ∃ p x, A = some p ∧ p.block < B ∧ xs[k]? = some x ∧ x.fine ∧ ∀ j v, x.cells[j]? = some v → w.cell? ((p.add (k * 37)).add j) = some v := by
  obtain ⟨h1, h2, h3 | ⟨p, hA, hB, hc⟩⟩ := h
  · omega
  · exact ⟨p, xs[k]'(by omega), hA, hB, List.getElem?_eq_getElem _, h2 _ (List.getElem_mem _), hc k (by omega)⟩

theorem Try.infoIno : (Try.prog.info? 78).map (·.size) = some 37 := by kernel_rfl

/-- Up to place k they rise by their numbers. -/
def RisesTo (k : Nat) (xs : List Ino) : Prop := ∀ i a b, i + 1 < k → xs[i]? = some a → xs[i + 1]? = some b → a.num < b.num

theorem RisesTo.next {k : Nat} {xs : List Ino} {a b : Ino} (h : RisesTo k xs) (h1 : 1 ≤ k) (ha : xs[k - 1]? = some a) (hb : xs[k]? = some b) (hlt : a.num < b.num) : RisesTo (k + 1) xs := fun i x y hi hx hy => by
  by_cases e : i + 1 < k
  · exact h i x y e hx hy
  · have e1 : i = k - 1 := by omega
    subst e1
    rw [ha] at hx
    have e2 : k - 1 + 1 = k := by omega
    rw [e2, hb] at hy
    rw [← Option.some.inj hx, ← Option.some.inj hy]
    exact hlt

/-- Is it a table? -/
def Itab (xs : List Ino) : Prop := (∀ x ∈ xs, x.may = true) ∧ RisesTo xs.length xs
noncomputable def itabB (xs : List Ino) : Bool := @decide (Itab xs) (Classical.propDecidable _)
theorem itabB_yes {xs : List Ino} (h : Itab xs) : itabB xs = true := by unfold itabB; exact @decide_eq_true _ (Classical.propDecidable _) h
theorem itabB_no {xs : List Ino} (h : ¬ Itab xs) : itabB xs = false := by unfold itabB; exact @decide_eq_false _ (Classical.propDecidable _) h
theorem itabB_of {xs : List Ino} (h : itabB xs = true) : Itab xs := by unfold itabB at h; exact @of_decide_eq_true _ (Classical.propDecidable _) h
noncomputable def risesB (xs : List Ino) : Bool := @decide (RisesTo xs.length xs) (Classical.propDecidable _)
theorem risesB_yes {xs : List Ino} (h : RisesTo xs.length xs) : risesB xs = true := by unfold risesB; exact @decide_eq_true _ (Classical.propDecidable _) h
theorem risesB_no {xs : List Ino} (h : ¬ RisesTo xs.length xs) : risesB xs = false := by unfold risesB; exact @decide_eq_false _ (Classical.propDecidable _) h

end Go.Proofs.Ytapegklffglnoaa
