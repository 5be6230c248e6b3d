/- A struct's literal one of whose parts is an array that is not written out. No function of the program is named here. -/
import Derived.Test.YtpjfhbmegabafaaTools
namespace Go.Proofs.Ytpjfhbmegabafaa
open Go.RowKit

theorem place_list (o : Nat) (l : List Value) (k : Nat) (Z : Array Value) : (l.zipIdx k).foldl (fun cs p => cs.setIfInBounds (o + p.2) p.1) Z = (l.zipIdx (o + k)).foldl (fun cs p => cs.setIfInBounds p.2 p.1) Z := by
  induction l generalizing k Z with
  | nil => rfl
  | cons v l ih => rw [List.zipIdx_cons, List.zipIdx_cons, List.foldl_cons, List.foldl_cons, ih (k + 1)]; rfl
/-- A part of a literal that is an array whose cells are not written out. -/
theorem place_at (o n : Nat) (Y Z : Array Value) (hn : Y.size = n) (h : o + n ≤ Z.size) : Array.foldl (fun cs (x : Value × Nat) => cs.setIfInBounds (o + x.snd) x.fst) Z Y.zipIdx 0 n = (put Z.toList o Y.toList).toArray := by
  subst hn
  have e : Y.size = Y.zipIdx.size := by simp
  rw [e, ← Array.foldl_toList, Array.toList_zipIdx, place_list, Nat.add_zero, foldl_place _ _ _ (by rw [Array.length_toList]; exact h)]

/-- The same where the array comes first. -/
theorem place_first (n : Nat) (Y Z : Array Value) (hn : Y.size = n) (h : n ≤ Z.size) : Array.foldl (fun cs (x : Value × Nat) => cs.setIfInBounds x.snd x.fst) Z Y.zipIdx 0 n = (put Z.toList 0 Y.toList).toArray := by
  have := place_at 0 n Y Z hn (by omega)
  simpa using this

end Go.Proofs.Ytpjfhbmegabafaa
