/- Hashes in variables, compared; texts filled up to a length. -/
import Derived.Test.YtmfajekfipfjpaaOtsSg
import Derived.Test.YtmfajekfipfjpaaNum0
import Derived.Stop.BytesEq
namespace Go.Proofs.Ytmfajekfipfjpaa
open Go.RowKit
open Go.Lib (strCells strCells_length strCells_oneCell)
attribute [local irreducible] Sha.compress Sha.blocks Sha.sha Sha.pad

/-- Whatever Public answers is a hash. -/
theorem pub_cells (kind q : Int) (id seed : ByteArray) : ∃ cs, HashCells cs ∧ (pubAns kind q id seed).1 = .agg cs.toArray := by
  unfold pubAns
  cases otsGood kind q id seed with
  | none => exact ⟨_, zero_cells, rfl⟩
  | some o => exact ⟨_, hash_cells _ (sha_len32 _), rfl⟩

theorem cand_cells (q : Int) (id msg s : ByteArray) : ∃ cs, HashCells cs ∧ (candAns q id msg s).1 = .agg cs.toArray := by
  unfold candAns
  cases candGood q id msg s with
  | none => exact ⟨_, zero_cells, rfl⟩
  | some o => exact ⟨_, hash_cells _ (sha_len32 _), rfl⟩

/-- What was signed makes the public key. -/
theorem cand_of_sign (kind q : Int) (id seed msg : ByteArray) (o : Ots.Par) (hg : otsGood kind q id seed = some o) (hm : msg.size ≤ 65536) : candAns q id msg (signAns kind q id seed msg).1 = pubAns kind q id seed ∧ (signAns kind q id seed msg).2 = 0 ∧ (pubAns kind q id seed).2 = 0 ∧ (signAns kind q id seed msg).1.size = 36 + 32 * o.p := by
  obtain ⟨hpar, hmay, -⟩ := good_parts hg
  obtain ⟨hkn, hk4⟩ := kind_nat hpar
  have e1 : signAns kind q id seed msg = (txt (Ots.sign o kind.toNat (Ots.head id.data.toList q.toNat) seed.data.toList msg.data.toList), 0) := by unfold signAns; rw [hg]; simp only [if_pos hm]
  have e2 : pubAns kind q id seed = (hv (Ots.pub o (Ots.head id.data.toList q.toNat) seed.data.toList), 0) := by unfold pubAns; rw [hg]
  have hl := Ots.sign_len sha_len32 o kind.toNat (Ots.head id.data.toList q.toNat) seed.data.toList msg.data.toList
  rw [e1, e2]
  refine ⟨?_, rfl, rfl, by rw [txt_size, hl]⟩
  have hgood : candGood q id msg (txt (Ots.sign o kind.toNat (Ots.head id.data.toList q.toNat) seed.data.toList msg.data.toList)) = some o := by
    unfold candGood
    rw [if_neg (by rw [txt_size, hl]; omega), txt_list, Ots.sign_kind, numL_be 4 _ (by omega), ← hkn, hpar]
    simp only
    rw [if_pos ⟨by rw [txt_size, hl], hmay, hm⟩]
  unfold candAns
  rw [hgood]
  simp only [txt_list, Ots.cand_sign sha_len32]

/-- So many bytes out of a text, zeros behind. -/
def fillL (s : List UInt8) (k : Nat) : List UInt8 := (List.range k).map fun i => s.getD i 0
def fillT (s : ByteArray) (k : Nat) : ByteArray := txt (fillL s.data.toList k)
theorem fillL_length (s : List UInt8) (k : Nat) : (fillL s k).length = k := by simp [fillL]
theorem fillT_size (s : ByteArray) (k : Nat) : (fillT s k).size = k := by rw [fillT, txt_size, fillL_length]

/-- The cells so far. -/
def fillC (s : List UInt8) (k j : Nat) : List Value := (List.range k).map fun i => .int .u8 (if i < j then ((s.getD i 0).toNat : Int) else 0)
theorem fillC_zero (s : List UInt8) (k : Nat) : fillC s k 0 = List.replicate k (.int .u8 0) := by
  unfold fillC
  apply List.ext_getElem?
  intro i
  by_cases h : i < k
  · simp [h]
  · simp [h]
theorem fillC_at (s : List UInt8) (k j : Nat) (h : j < k) : (fillC s k j)[j]? = some (.int .u8 0) := by
  unfold fillC
  rw [List.getElem?_map, List.getElem?_range h]
  simp
theorem fillC_set (s : List UInt8) (k j : Nat) (h : j < k) : (fillC s k j).set j (.int .u8 ((s.getD j 0).toNat : Int)) = fillC s k (j + 1) := by
  unfold fillC
  apply List.ext_getElem?
  intro i
  by_cases hi : i < k
  · by_cases hij : j = i
    · subst hij
      rw [List.getElem?_set_self (by simpa using h), List.getElem?_map, List.getElem?_range hi]
      simp
    · rw [List.getElem?_set_ne hij, List.getElem?_map, List.getElem?_map, List.getElem?_range hi]
      simp only [Option.map_some]
      by_cases hlt : i < j
      · rw [if_pos hlt, if_pos (by omega)]
      · rw [if_neg hlt, if_neg (by omega)]
  · rw [List.getElem?_eq_none (by simp; omega), List.getElem?_eq_none (by simp; omega)]
theorem fillC_all (s : List UInt8) (k j : Nat) (h : k ≤ j ∨ s.length ≤ j) : fillC s k j = strCells (txt (fillL s k)) := by
  have e : strCells (txt (fillL s k)) = (fillL s k).map fun b => Value.int .u8 (b.toNat : Int) := rfl
  rw [e]
  unfold fillC fillL
  rw [List.map_map]
  apply List.map_congr_left
  intro i hi
  have hi' : i < k := by simpa using hi
  by_cases hlt : i < j
  · simp [hlt]
  · have : s.length ≤ i := by omega
    have hg : s.getD i 0 = 0 := by rw [List.getD, List.getElem?_eq_none this]; rfl
    simp only [hlt, if_false, Function.comp, hg]
    rfl

end Go.Proofs.Ytmfajekfipfjpaa
