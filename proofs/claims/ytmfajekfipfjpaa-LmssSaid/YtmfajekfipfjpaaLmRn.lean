/- Layer 5: rows of a tree's nodes. -/
import Derived.Test.YtmfajekfipfjpaaLmRa
import Derived.Test.YtmfajekfipfjpaaLmNo
namespace Go.Proofs.Ytmfajekfipfjpaa
open Go.RowKit
open Go.Lib (strCells strCells_length strCells_oneCell)
attribute [local irreducible] Sha.compress Sha.blocks Sha.sha Sha.pad

/-- A row of nodes, made from the end down to r. -/
def nodeC (nd : Nat → List UInt8) (n r : Nat) : List Value := (List.range n).map fun i => .string (if r < i then txt (nd i) else ⟨#[]⟩)
theorem nodeC_len (nd : Nat → List UInt8) (n r : Nat) : (nodeC nd n r).length = n := by simp [nodeC]
theorem nodeC_at {nd : Nat → List UInt8} {n r i : Nat} (h : i < n) : (nodeC nd n r)[i]? = some (.string (if r < i then txt (nd i) else ⟨#[]⟩)) := by simp [nodeC, List.getElem?_range h]
theorem nodeC_got {nd : Nat → List UInt8} {n r i : Nat} (h : i < n) (h2 : r < i) : (nodeC nd n r)[i]? = some (.string (txt (nd i))) := by rw [nodeC_at h, if_pos h2]
theorem nodeC_set (nd : Nat → List UInt8) (n r : Nat) : (nodeC nd n (r + 1)).set (r + 1) (.string (txt (nd (r + 1)))) = nodeC nd n r := by
  apply List.ext_getElem?
  intro i
  by_cases hi : i < n
  · by_cases e : r + 1 = i
    · subst e
      rw [List.getElem?_set_self (by rw [nodeC_len]; exact hi), nodeC_got hi (Nat.lt_succ_self r)]
    · rw [List.getElem?_set_ne e, nodeC_at hi, nodeC_at hi]
      by_cases h2 : r < i
      · rw [if_pos h2, if_pos (by omega)]
      · rw [if_neg h2, if_neg (by omega)]
  · rw [List.getElem?_eq_none (by rw [List.length_set, nodeC_len]; omega), List.getElem?_eq_none (by rw [nodeC_len]; omega)]
theorem nodeC_start (nd : Nat → List UInt8) (n r : Nat) (h : n ≤ r + 1) : nodeC nd n r = List.replicate n (.string ⟨#[]⟩) := by
  apply List.ext_getElem?
  intro i
  by_cases hi : i < n
  · rw [nodeC_at hi, if_neg (by omega), List.getElem?_replicate, if_pos hi]
  · rw [List.getElem?_eq_none (by rw [nodeC_len]; omega), List.getElem?_eq_none (by rw [List.length_replicate]; omega)]

/-- A tree's nodes. -/
def ndOf (p : Ots.Par) (h : Nat) (id seed : ByteArray) (r : Nat) : List UInt8 := Lms.at_ id.data.toList (Lms.keys p id.data.toList seed.data.toList h) h r
theorem ndOf_len (p : Ots.Par) (h : Nat) (id seed : ByteArray) (r : Nat) : (ndOf p h id seed r).length = 32 := Lms.at_len _ _ _ _
theorem pub_good {p : Ots.Par} {kd : Int} (hpar : Ots.par kd = some p) (q : Nat) (hq : q ≤ 4294967295) (id seed : ByteArray) (hi16 : id.size = 16) (hs32 : seed.size = 32) : pubAns kd (q : Int) id seed = (.agg (byteCells (Ots.pub p (Ots.head id.data.toList q) seed.data.toList)).toArray, 0) := by
  have hg : otsGood kd (q : Int) id seed = some p := by
    unfold otsGood
    rw [hpar]
    exact if_pos ⟨by unfold Ots.may; rw [decide_eq_true ⟨hi16, by omega, by omega⟩], hs32⟩
  unfold pubAns
  rw [hg]
  rfl
theorem sizeStr : (Try.prog.info? 9).map (·.size) = some (#[Value.string ⟨#[]⟩] : Array Value).size := by kernel_rfl
theorem Try.infoStrR : (Try.prog.info? 9).map (fun i => (i.zero, i.size, i.bytes)) = some (some (.string ByteArray.empty), 1, 16) := by kernel_rfl


end Go.Proofs.Ytmfajekfipfjpaa
