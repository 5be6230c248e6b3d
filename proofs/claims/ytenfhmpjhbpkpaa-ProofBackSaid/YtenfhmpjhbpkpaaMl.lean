/- Layer 9: what the roots are, in hashes; parts of lists of texts; rows of hashes. No function of the program is named here. -/
import Derived.Test.YtenfhmpjhbpkpaaMth
import Derived.Test.YtenfhmpjhbpkpaaTexts
import Derived.Test.YtenfhmpjhbpkpaaHashR
namespace Go.Proofs.Ytenfhmpjhbpkpaa
open Go.RowKit
open Go.Lib (strCells strCells_length strCells_oneCell)
attribute [local irreducible] Sha.compress Sha.blocks Sha.sha Sha.pad

/-- A leaf's hash; the node over two. -/
def leafH (s : List UInt8) : List UInt8 := Sha.sha ([0] ++ s)
def nodeH (a b : List UInt8) : List UInt8 := Sha.sha ([1] ++ a ++ b)
def leavesH (xs : List ByteArray) : List (List UInt8) := xs.map fun x => leafH x.data.toList
/-- The roots of the whole trees that hold these leaves. -/
def wholeH (xs : List ByteArray) : List (List UInt8) := Mth.wholes nodeH (leavesH xs)
/-- The root of these leaves. -/
def rootH (xs : List ByteArray) : List UInt8 := if xs.length = 0 then Sha.sha [] else (Mth.root nodeH (leavesH xs)).getD []

theorem leafH_len (s : List UInt8) : (leafH s).length = 32 := sha_len32 _
theorem nodeH_len (a b : List UInt8) : (nodeH a b).length = 32 := sha_len32 _

theorem leavesH_length (xs : List ByteArray) : (leavesH xs).length = xs.length := by simp [leavesH]

theorem leavesH_len (xs : List ByteArray) : ∀ h ∈ leavesH xs, h.length = 32 := by
  intro h hh
  obtain ⟨x, _, rfl⟩ := List.mem_map.1 hh
  exact leafH_len _

theorem pairs_len : ∀ (l : List (List UInt8)), ∀ h ∈ Mth.pairs nodeH l, h.length = 32
  | [], h, hh => by simp [Mth.pairs] at hh
  | [_], h, hh => by simp [Mth.pairs] at hh
  | a :: b :: l, h, hh => by
    simp only [Mth.pairs, List.mem_cons] at hh
    rcases hh with rfl | hh
    · exact nodeH_len _ _
    · exact pairs_len l h hh

theorem whole_len : ∀ (f : Nat) (l : List (List UInt8)), (∀ h ∈ l, h.length = 32) → ∀ h ∈ Mth.whole nodeH f l, h.length = 32
  | 0, l, _, h, hh => by simp [Mth.whole] at hh
  | f + 1, l, hl, h, hh => by
    have ih := whole_len f (Mth.pairs nodeH l) (pairs_len l)
    unfold Mth.whole at hh
    split at hh
    · cases hh
    · split at hh
      · exact ih h hh
      · rcases List.mem_append.1 hh with hh | hh
        · exact ih h hh
        · cases hg : l.getLast? with
          | none => rw [hg] at hh; cases hh
          | some y =>
            rw [hg] at hh
            obtain rfl : h = y := by simpa using hh
            exact hl h (List.mem_of_getLast? hg)

theorem wholeH_len (xs : List ByteArray) : ∀ h ∈ wholeH xs, h.length = 32 := whole_len _ _ (leavesH_len xs)

theorem root_len : ∀ (f : Nat) (l : List (List UInt8)), (∀ h ∈ l, h.length = 32) → ∀ r, Mth.mth nodeH f l = some r → r.length = 32
  | 0, l, hl, r, hr => hl r (List.mem_of_mem_head? hr)
  | f + 1, l, hl, r, hr => by
    unfold Mth.mth at hr
    split at hr
    · exact hl r (List.mem_of_mem_head? hr)
    · split at hr
      · cases hr
        exact nodeH_len _ _
      · cases hr

theorem rootH_len (xs : List ByteArray) : (rootH xs).length = 32 := by
  unfold rootH
  split
  · exact sha_len32 _
  · rename_i h
    obtain ⟨r, hr⟩ := Mth.root_some nodeH (leavesH xs).length (leavesH xs) rfl (by rw [leavesH_length]; omega)
    rw [hr]
    exact root_len _ _ (leavesH_len xs) r hr

theorem rootH_nil : rootH [] = Sha.sha [] := rfl
theorem rootH_one (x : ByteArray) : rootH [x] = leafH x.data.toList := by
  unfold rootH leavesH
  simp [Mth.root_one]

theorem rootH_two (xs : List ByteArray) (h : 2 ≤ xs.length) : rootH xs = nodeH (rootH (xs.take (Mth.cut xs.length))) (rootH (xs.drop (Mth.cut xs.length))) := by
  obtain ⟨c1, c2, -, -⟩ := Mth.cut_spec xs.length h
  have hl := leavesH_length xs
  have e1 : leavesH (xs.take (Mth.cut xs.length)) = (leavesH xs).take (Mth.cut xs.length) := by simp [leavesH, List.map_take]
  have e2 : leavesH (xs.drop (Mth.cut xs.length)) = (leavesH xs).drop (Mth.cut xs.length) := by simp [leavesH, List.map_drop]
  obtain ⟨a, ha⟩ := Mth.root_some nodeH (Mth.cut xs.length) ((leavesH xs).take (Mth.cut xs.length)) (by rw [List.length_take, hl]; omega) c1
  obtain ⟨b, hb⟩ := Mth.root_some nodeH (xs.length - Mth.cut xs.length) ((leavesH xs).drop (Mth.cut xs.length)) (by rw [List.length_drop, hl]) (by omega)
  unfold rootH
  rw [if_neg (by omega), if_neg (by rw [List.length_take]; omega), if_neg (by rw [List.length_drop]; omega), e1, e2, Mth.root_two nodeH (leavesH xs) (by omega), hl, ha, hb]
  rfl

/-- The program's way: over the whole trees. -/
theorem rootH_over (xs : List ByteArray) (h : 1 ≤ xs.length) : Mth.over nodeH (wholeH xs) = some (rootH xs) := by
  have hl := leavesH_length xs
  unfold wholeH rootH
  rw [Mth.over_wholes nodeH (leavesH xs).length (leavesH xs) rfl (by omega), if_neg (by omega)]
  obtain ⟨r, hr⟩ := Mth.root_some nodeH (leavesH xs).length (leavesH xs) rfl (by omega)
  rw [hr]
  rfl

theorem wholeH_snoc (xs : List ByteArray) (x : ByteArray) (f : Nat) (hf : xs.length ≤ f) : Mth.carry nodeH f xs.length (wholeH xs) (leafH x.data.toList) = wholeH (xs ++ [x]) := by
  have h := Mth.carry_wholes nodeH f (leavesH xs) (leafH x.data.toList) (by rw [leavesH_length]; exact hf)
  rw [leavesH_length] at h
  have e : leavesH (xs ++ [x]) = leavesH xs ++ [leafH x.data.toList] := by simp [leavesH]
  unfold wholeH
  rw [e]
  exact h

theorem whole_short : ∀ (f : Nat) (l : List (List UInt8)), (Mth.whole nodeH f l).length ≤ l.length
  | 0, l => by simp [Mth.whole]
  | f + 1, l => by
    have ih := whole_short f (Mth.pairs nodeH l)
    have hp := Mth.pairs_length nodeH l
    unfold Mth.whole
    split
    · simp
    · split
      · omega
      · rw [List.length_append]
        have : ((l.getLast?).toList).length ≤ 1 := by cases l.getLast? <;> simp
        omega

theorem whole_pow : ∀ (f : Nat) (l : List (List UInt8)), 2 ^ (Mth.whole nodeH f l).length ≤ l.length + 1
  | 0, l => by simp [Mth.whole]
  | f + 1, l => by
    have ih := whole_pow f (Mth.pairs nodeH l)
    have hp := Mth.pairs_length nodeH l
    unfold Mth.whole
    split
    · simp
    · split
      · omega
      · rw [List.length_append]
        have : ((l.getLast?).toList).length ≤ 1 := by cases l.getLast? <;> simp
        have h2 := Nat.pow_le_pow_right (n := 2) (by decide) (show (Mth.whole nodeH f (Mth.pairs nodeH l)).length + ((l.getLast?).toList).length ≤ (Mth.whole nodeH f (Mth.pairs nodeH l)).length + 1 by omega)
        rw [Nat.pow_succ] at h2
        omega

theorem wholes_few (l : List (List UInt8)) (h : l.length ≤ 10000000000000) : (Mth.wholes nodeH l).length ≤ 44 := by
  have h1 := whole_pow l.length l
  rcases Nat.lt_or_ge 44 (Mth.whole nodeH l.length l).length with h2 | h2
  · have h3 := Nat.pow_le_pow_right (n := 2) (by decide) h2
    have h4 : 2 ^ (44 + 1) = 35184372088832 := by decide
    rw [h4] at h3
    omega
  · exact h2

theorem wholes_short (l : List (List UInt8)) : (Mth.wholes nodeH l).length ≤ l.length := whole_short _ _
theorem wholeH_short (xs : List ByteArray) : (wholeH xs).length ≤ xs.length := by have := wholes_short (leavesH xs); rw [leavesH_length] at this; exact this
theorem wholes_len (l : List (List UInt8)) (hl : ∀ h ∈ l, h.length = 32) : ∀ h ∈ Mth.wholes nodeH l, h.length = 32 := whole_len _ _ hl

/-- One carry. -/
theorem carry_step (l : List (List UInt8)) (y : List UInt8) (h : l.length % 2 = 1) (hl : ∀ a ∈ l, a.length = 32) :
    ∃ m z, Mth.wholes nodeH l = Mth.wholes nodeH m ++ [z] ∧ m.length = l.length / 2 ∧ (∀ a ∈ m, a.length = 32) ∧ z.length = 32 ∧ Mth.wholes nodeH (l ++ [y]) = Mth.wholes nodeH (m ++ [nodeH z y]) := by
  obtain ⟨m, z, rfl⟩ : ∃ m z, l = m ++ [z] := by
    have hne : l ≠ [] := fun e => by rw [e] at h; simp at h
    exact ⟨l.dropLast, l.getLast hne, (List.dropLast_concat_getLast hne).symm⟩
  have hml : (m ++ [z]).length = m.length + 1 := by simp
  have hme : m.length % 2 = 0 := by omega
  have hp := Mth.pairs_length nodeH m
  have hev : (m ++ [z] ++ [y]).length % 2 = 0 := by simp; omega
  refine ⟨Mth.pairs nodeH m, z, ?_, by omega, pairs_len m, hl z (by simp), ?_⟩
  · rw [Mth.wholes_odd nodeH m z hme, Mth.wholes_even nodeH m hme]
  · rw [Mth.wholes_even nodeH _ hev, List.append_assoc, Mth.pairs_append nodeH m _ hme]
    rfl

/-! Parts of a list of texts. -/

theorem strs_take (xs : List ByteArray) (k : Nat) : strs (xs.take k) = (strs xs).take k := by simp [strs, List.map_take]
theorem strs_drop (xs : List ByteArray) (k : Nat) : strs (xs.drop k) = (strs xs).drop k := by simp [strs, List.map_drop]

theorem Texts.take {w : World} {B n : Nat} {A : Option Addr} {xs : List ByteArray} (h : Texts w B A n xs) {k : Nat} (hk : k ≤ n) : Texts w B A k (xs.take k) := by
  have hl := h.len
  obtain ⟨h1, h2⟩ := h
  refine ⟨by rw [strs_length, List.length_take]; omega, ?_⟩
  by_cases hk0 : k = 0
  · exact .inl hk0
  · rcases h2 with h2 | ⟨p, hp, hb, hc⟩
    · omega
    · refine .inr ⟨p, hp, hb, fun j hj => ?_⟩
      rw [strs_length, List.length_take] at hj
      rw [hc j (by rw [strs_length]; omega)]
      congr 1
      have e := strs_take xs k
      simp only [e, List.getElem_take]

theorem Texts.drop {w : World} {B n : Nat} {p : Addr} {xs : List ByteArray} (h : Texts w B (some p) n xs) {k : Nat} (hk : k < n) : Texts w B (some (p.add k)) (n - k) (xs.drop k) := by
  have hl := h.len
  obtain ⟨h1, h2⟩ := h
  refine ⟨by rw [strs_length, List.length_drop]; omega, ?_⟩
  rcases h2 with h2 | ⟨q, hp, hb, hc⟩
  · omega
  · cases hp
    refine .inr ⟨_, rfl, by rw [add_block]; exact hb, fun j hj => ?_⟩
    rw [strs_length, List.length_drop] at hj
    rw [add_add, hc (k + j) (by rw [strs_length]; omega)]
    congr 1
    have e := strs_drop xs k
    simp only [e, List.getElem_drop]

/-! Rows of hashes of a call's own. -/

theorem hashCells_append (xs ys : List (List UInt8)) : hashCells (xs ++ ys) = hashCells xs ++ hashCells ys := by unfold hashCells; rw [List.flatMap_append]
theorem hashCells_one (x : List UInt8) : hashCells [x] = byteCells x := by simp [hashCells]

/-- The row without its last hash. -/
theorem row_pop {w : World} {B : Nat} {e : TypeId} {A : Option Addr} {n c : Nat} {W : List (List UInt8)} {y : List UInt8} (hW : ∀ h ∈ W, h.length = 32) (hn : W.length = n) (h : w.ownsRow B e 32 (.slice A (n + 1) c) (n + 1) (hashCells (W ++ [y]))) : w.ownsRow B e 32 (.slice A n c) n (hashCells W) := by
  have hl := hashCells_length W hW
  refine ⟨by rw [hl, hn, Nat.mul_comm], ?_⟩
  rcases h.2 with ⟨_, h0⟩ | ⟨g, cap, cur, hv, hb, hg, hnc, hcm, hcs, htake⟩
  · omega
  · injection hv with h1 _ h2
    subst h1 h2
    refine .inr ⟨g, c, cur, rfl, hb, hg, by omega, hcm, hcs, ?_⟩
    rw [hashCells_append] at htake
    have e : cur.toList.take (n * 32) = (cur.toList.take ((n + 1) * 32)).take (n * 32) := by rw [List.take_take]; congr 1; omega
    rw [e, htake]
    exact List.take_left' (by rw [hl, hn, Nat.mul_comm])

end Go.Proofs.Ytenfhmpjhbpkpaa
