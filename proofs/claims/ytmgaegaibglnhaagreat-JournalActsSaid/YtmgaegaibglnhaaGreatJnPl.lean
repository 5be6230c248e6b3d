/- Layer 8, plain: records, their bytes; what stands on a disk. No function of the program is named here.
   Layer 8, plain: what is written stands; what is blank does not; what agrees agrees. No function of the program is named here. -/
import Derived.Test.YtmgaegaibglnhaaGreatDkP
import Derived.Test.YtmgaegaibglnhaaGreatHashR
namespace Go.Proofs.YtmgaegaibglnhaaGreat
open Go.RowKit
attribute [local irreducible] Sha.compress Sha.blocks Sha.sha Sha.pad

structure Rec where
  kind : Int
  data : ByteArray
def magicT : ByteArray := ⟨#[65, 74]⟩
def recHash (prev : List UInt8) (seq kind : Nat) (data : ByteArray) : List UInt8 := Sha.sha (tagL 4 [txt prev, be 4 seq, be 1 kind, data])
theorem recHash_len (prev : List UInt8) (seq kind : Nat) (data : ByteArray) : (recHash prev seq kind data).length = 32 := sha_len32 _
def recHead (seq kind : Nat) (data : ByteArray) : ByteArray := magicT ++ be 4 seq ++ be 1 kind ++ be 2 data.size ++ data
def recRaw (prev : List UInt8) (seq kind : Nat) (data : ByteArray) : ByteArray := recHead seq kind data ++ txt (recHash prev seq kind data)
theorem recHead_size (seq kind : Nat) (data : ByteArray) : (recHead seq kind data).size = 9 + data.size := by
  unfold recHead
  rw [size_append, size_append, size_append, size_append, be_size, be_size, be_size]
  show 2 + 4 + 1 + 2 + data.size = _
  omega
theorem recRaw_size (prev : List UInt8) (seq kind : Nat) (data : ByteArray) : (recRaw prev seq kind data).size = 41 + data.size := by
  unfold recRaw
  rw [size_append, recHead_size, txt_size, recHash_len]
  omega
/-- How many sectors hold n bytes. -/
def wholes (n : Nat) : Nat := (n + 63) / 64
theorem wholes_ge (n : Nat) : n ≤ wholes n * 64 := by unfold wholes; omega
theorem wholes_lt (n : Nat) : wholes n * 64 < n + 64 := by unfold wholes; omega
def recBytes (prev : List UInt8) (seq kind : Nat) (data : ByteArray) : ByteArray := recRaw prev seq kind data ++ zeroS (wholes (41 + data.size) * 64 - (41 + data.size))
theorem recBytes_size (prev : List UInt8) (seq kind : Nat) (data : ByteArray) : (recBytes prev seq kind data).size = wholes (41 + data.size) * 64 := by
  have := wholes_ge (41 + data.size)
  unfold recBytes
  rw [size_append, recRaw_size, zeroS_size]
  omega
def sealMay (seq : Int) (r : Rec) : Bool := decide (0 ≤ seq ∧ seq ≤ 4294967295 ∧ 0 ≤ r.kind ∧ r.kind ≤ 255 ∧ r.data.size ≤ 1024)
/-- What Seal answers. -/
def sealAns (prev : List UInt8) (seq : Int) (r : Rec) : ByteArray × Int := if sealMay seq r then (recBytes prev seq.toNat r.kind.toNat r.data, 0) else (⟨#[]⟩, 800)

/-- Texts, one behind the other. -/
def joinB (xs : List ByteArray) : ByteArray := ⟨(joinS xs).toArray⟩
theorem joinB_list (xs : List ByteArray) : (joinB xs).data.toList = joinS xs := rfl
theorem joinB_size {xs : List ByteArray} (h : ∀ s ∈ xs, s.size = 64) : (joinB xs).size = xs.length * 64 := by
  rw [← data_length, joinB_list]
  unfold joinS
  induction xs with
  | nil => rfl
  | cons x xs ih =>
    rw [List.flatMap_cons, List.length_append, ih (fun s hs => h s (List.mem_cons_of_mem _ hs)), data_length, h x (List.mem_cons_self ..), List.length_cons]
    omega
/-- What some sectors hold; nothing, if there are not so many. -/
def readS (xs : List ByteArray) (at_ k : Nat) : ByteArray := if at_ + k ≤ xs.length then joinB ((xs.drop at_).take k) else ⟨#[]⟩
theorem readS_size {xs : List ByteArray} (h : ∀ s ∈ xs, s.size = 64) (at_ k : Nat) : (readS xs at_ k).size = if at_ + k ≤ xs.length then k * 64 else 0 := by
  unfold readS
  split
  · rw [joinB_size (fun s hs => h s (List.mem_of_mem_drop (List.mem_of_mem_take hs))), List.length_take, List.length_drop]
    congr 1
    omega
  · rfl
/-- The record that may stand at a sector. -/
def guessS (xs : List ByteArray) (at_ : Nat) : Rec :=
  if (readS xs at_ 1).size < 9 then ⟨0, ⟨#[]⟩⟩
  else if (readS xs at_ (wholes (9 + num ((readS xs at_ 1).extract 7 9) + 32))).size < 9 + num ((readS xs at_ 1).extract 7 9) then ⟨0, ⟨#[]⟩⟩
  else ⟨(num ((readS xs at_ 1).extract 6 7) : Int), (readS xs at_ (wholes (9 + num ((readS xs at_ 1).extract 7 9) + 32))).extract 9 (9 + num ((readS xs at_ 1).extract 7 9))⟩

/-- Where a journal stands. -/
structure JSt where
  prev : List UInt8
  seq : Nat
  used : Nat
def JSt.start : JSt := ⟨List.replicate 32 0, 0, 0⟩
/-- Behind a record with such bytes. -/
def JSt.pass (st : JSt) (r : Rec) (b : ByteArray) : JSt := ⟨(b.data.toList.drop (9 + r.data.size)).take 32, st.seq + 1, st.used + b.size / 64⟩
/-- The record that stands there, with its bytes. -/
def nextS (xs : List ByteArray) (st : JSt) : Option (Rec × ByteArray) :=
  if (sealAns st.prev (st.seq : Int) (guessS xs st.used)).2 = 0 ∧ readS xs st.used ((sealAns st.prev (st.seq : Int) (guessS xs st.used)).1.size / 64) = (sealAns st.prev (st.seq : Int) (guessS xs st.used)).1
  then some (guessS xs st.used, (sealAns st.prev (st.seq : Int) (guessS xs st.used)).1) else none
/-- These records stand there, one behind the other. -/
noncomputable def stand (xs : List ByteArray) : JSt → List (Rec × ByteArray) → Option JSt
  | st, [] => some st
  | st, p :: l => @ite _ (nextS xs st = some p) (Classical.propDecidable _) (stand xs (st.pass p.1 p.2) l) none
/-- All that stand there. -/
def Stands (xs : List ByteArray) (l : List (Rec × ByteArray)) : Prop := ∃ st, stand xs JSt.start l = some st ∧ nextS xs st = none

theorem stand_snoc {xs : List ByteArray} {l : List (Rec × ByteArray)} {st st' : JSt} {p : Rec × ByteArray} (h : stand xs st l = some st') (hn : nextS xs st' = some p) : stand xs st (l ++ [p]) = some (st'.pass p.1 p.2) := by
  induction l generalizing st with
  | nil =>
    obtain rfl : st = st' := Option.some.inj h
    rw [List.nil_append]
    unfold stand
    rw [if_pos hn]
    rfl
  | cons q l ih =>
    unfold stand at h
    rw [List.cons_append]
    unfold stand
    by_cases hq : nextS xs st = some q
    · rw [if_pos hq] at h ⊢
      exact ih h
    · rw [if_neg hq] at h
      cases h
theorem stands_one {xs : List ByteArray} {l l' : List (Rec × ByteArray)} {st : JSt} {a b : JSt} (h1 : stand xs st l = some a) (n1 : nextS xs a = none) (h2 : stand xs st l' = some b) (n2 : nextS xs b = none) : l = l' ∧ a = b := by
  induction l generalizing st l' with
  | nil =>
    obtain rfl : st = a := Option.some.inj h1
    cases l' with
    | nil => exact ⟨rfl, Option.some.inj h2⟩
    | cons p l' =>
      unfold stand at h2
      rw [n1, if_neg (by intro e; cases e)] at h2
      cases h2
  | cons p l ih =>
    unfold stand at h1
    by_cases hp : nextS xs st = some p
    · rw [if_pos hp] at h1
      cases l' with
      | nil =>
        obtain rfl : st = b := Option.some.inj h2
        rw [hp] at n2
        cases n2
      | cons q l' =>
        unfold stand at h2
        by_cases hq : nextS xs st = some q
        · rw [if_pos hq] at h2
          obtain rfl : p = q := by rw [hp] at hq; exact Option.some.inj hq
          obtain ⟨e1, e2⟩ := ih h1 h2
          exact ⟨by rw [e1], e2⟩
        · rw [if_neg hq] at h2
          cases h2
    · rw [if_neg hp] at h1
      cases h1
theorem sealMay_iff {seq : Int} {r : Rec} : sealMay seq r = true ↔ 0 ≤ seq ∧ seq ≤ 4294967295 ∧ 0 ≤ r.kind ∧ r.kind ≤ 255 ∧ r.data.size ≤ 1024 := decide_eq_true_iff
/-- What stands there takes a sector at least, and lies within. -/
theorem nextS_some {xs : List ByteArray} {st : JSt} {p : Rec × ByteArray} (h : nextS xs st = some p) (hx : ∀ s ∈ xs, s.size = 64) :
    p.1 = guessS xs st.used ∧ sealMay (st.seq : Int) p.1 = true ∧ p.2 = recBytes st.prev st.seq p.1.kind.toNat p.1.data ∧ readS xs st.used (wholes (41 + p.1.data.size)) = p.2 ∧ st.used + wholes (41 + p.1.data.size) ≤ xs.length := by
  unfold nextS at h
  split at h
  · rename_i hc
    obtain ⟨hc1, hc2⟩ := hc
    obtain rfl := Option.some.inj h
    have hm : sealMay (st.seq : Int) (guessS xs st.used) = true := by
      cases hq : sealMay (st.seq : Int) (guessS xs st.used) with
      | true => rfl
      | false =>
        unfold sealAns at hc1
        rw [hq] at hc1
        cases hc1
    have he : (sealAns st.prev (st.seq : Int) (guessS xs st.used)).1 = recBytes st.prev st.seq (guessS xs st.used).kind.toNat (guessS xs st.used).data := by
      unfold sealAns
      rw [if_pos hm]
      rfl
    rw [he] at hc2
    rw [recBytes_size, Nat.mul_div_cancel _ (by decide : 0 < 64)] at hc2
    refine ⟨rfl, hm, he, hc2.trans he.symm, ?_⟩
    by_cases hin : st.used + wholes (41 + (guessS xs st.used).data.size) ≤ xs.length
    · exact hin
    · have h1 := readS_size hx st.used (wholes (41 + (guessS xs st.used).data.size))
      rw [if_neg hin, hc2, recBytes_size] at h1
      have := wholes_ge (41 + (guessS xs st.used).data.size)
      omega
  · cases h

end Go.Proofs.YtmgaegaibglnhaaGreat
namespace Go.Proofs.YtmgaegaibglnhaaGreat
open Go.RowKit
attribute [local irreducible] Sha.compress Sha.blocks Sha.sha Sha.pad

theorem rec_first (prev : List UInt8) (s k : Nat) (d : ByteArray) : ∃ t, (recBytes prev s k d).data.toList = 65 :: t := by
  unfold recBytes recRaw recHead
  simp only [data_append]
  exact ⟨_, rfl⟩
theorem joinS_blank {xs : List ByteArray} {u k : Nat} (hk : 0 < k) (h : xs[u]? = some (zeroS 64)) : ∃ t, joinS ((xs.drop u).take k) = 0 :: t := by
  have hlt := (List.getElem?_eq_some_iff.1 h).1
  have e : xs[u] = zeroS 64 := (List.getElem?_eq_some_iff.1 h).2
  obtain ⟨k, rfl⟩ : ∃ j, k = j + 1 := ⟨k - 1, by omega⟩
  rw [List.drop_eq_getElem_cons hlt, List.take_succ_cons, e]
  unfold joinS
  rw [List.flatMap_cons]
  exact ⟨_, rfl⟩
/-- From a sector on all is blank. -/
def Blank (xs : List ByteArray) (u : Nat) : Prop := ∀ k s, u ≤ k → xs[k]? = some s → s = zeroS 64
theorem blank_none {xs : List ByteArray} {st : JSt} (h : Blank xs st.used) : nextS xs st = none := by
  unfold nextS
  refine if_neg (fun hh => ?_)
  obtain ⟨h1, h2⟩ := hh
  generalize guessS xs st.used = R at h1 h2
  have hm : sealMay (st.seq : Int) R = true := by
    cases hq : sealMay (st.seq : Int) R with
    | true => rfl
    | false =>
      unfold sealAns at h1
      rw [hq] at h1
      cases h1
  have he : (sealAns st.prev (st.seq : Int) R).1 = recBytes st.prev st.seq R.kind.toNat R.data := by
    unfold sealAns
    rw [if_pos hm]
    rfl
  rw [he, recBytes_size, Nat.mul_div_cancel _ (by decide : 0 < 64)] at h2
  have hw := wholes_ge (41 + R.data.size)
  have h3 : (readS xs st.used (wholes (41 + R.data.size))).data.toList = (recBytes st.prev st.seq R.kind.toNat R.data).data.toList := by rw [h2]
  obtain ⟨t, ht⟩ := rec_first st.prev st.seq R.kind.toNat R.data
  rw [ht] at h3
  unfold readS at h3
  split at h3
  · rename_i hin
    obtain ⟨s, hs⟩ : ∃ s, xs[st.used]? = some s := ⟨_, List.getElem?_eq_getElem (by omega)⟩
    rw [h st.used s (Nat.le_refl _) hs] at hs
    obtain ⟨t2, ht2⟩ := joinS_blank (k := wholes (41 + R.data.size)) (by omega) hs
    rw [joinB_list, ht2] at h3
    cases h3
  · cases h3
/-- Two disks agree ahead of a sector. -/
structure Agree (xs ys : List ByteArray) (u : Nat) : Prop where
  len : ys.length = xs.length
  same : ∀ i, i < u → ys[i]? = xs[i]?
theorem Agree.cut {xs ys : List ByteArray} {u a k : Nat} (h : Agree xs ys u) (hk : a + k ≤ u) : (ys.drop a).take k = (xs.drop a).take k := by
  apply List.ext_getElem?
  intro i
  by_cases hi : i < k
  · rw [List.getElem?_take_of_lt hi, List.getElem?_take_of_lt hi, List.getElem?_drop, List.getElem?_drop, h.same _ (by omega)]
  · rw [List.getElem?_eq_none (by rw [List.length_take]; omega), List.getElem?_eq_none (by rw [List.length_take]; omega)]
theorem Agree.read {xs ys : List ByteArray} {u a k : Nat} (h : Agree xs ys u) (hk : a + k ≤ u ∨ xs.length < a + k) : readS ys a k = readS xs a k := by
  unfold readS
  rw [h.len]
  split
  · rcases hk with hk | hk
    · rw [h.cut hk]
    · omega
  · rfl
theorem num2_lt (s : ByteArray) : num (s.extract 7 9) ≤ 65535 := by
  have h := numL_lt (s.extract 7 9).data.toList
  have h2 : (s.extract 7 9).data.toList.length ≤ 2 := by rw [data_length, ByteArray.size_extract]; omega
  have := Nat.pow_le_pow_right (n := 256) (by omega) h2
  unfold num
  omega
theorem next_agree {xs ys : List ByteArray} {st : JSt} {p : Rec × ByteArray} {u : Nat} (hx : ∀ s ∈ xs, s.size = 64) (h : Agree xs ys u) (hn : nextS xs st = some p) (hu : st.used + wholes (41 + p.1.data.size) ≤ u) : nextS ys st = some p := by
  obtain ⟨h1, h2, h3, h4, h5⟩ := nextS_some hn hx
  have hw := wholes_ge (41 + p.1.data.size)
  have hg : guessS ys st.used = guessS xs st.used := by
    have r1 : readS ys st.used 1 = readS xs st.used 1 := h.read (.inl (by omega))
    unfold guessS
    rw [r1]
    split
    · rfl
    · rename_i h9
      obtain ⟨m, hm⟩ : ∃ m, num ((readS xs st.used 1).extract 7 9) = m := ⟨_, rfl⟩
      rw [hm]
      have r2 : readS ys st.used (wholes (9 + m + 32)) = readS xs st.used (wholes (9 + m + 32)) := by
        refine h.read ?_
        by_cases hin : st.used + wholes (9 + m + 32) ≤ xs.length
        · left
          have hd : p.1.data.size = m := by
            rw [h1]
            unfold guessS
            rw [if_neg h9, hm, if_neg (by rw [readS_size hx, if_pos hin]; have := wholes_ge (9 + m + 32); omega)]
            show (ByteArray.extract _ 9 (9 + m)).size = m
            rw [ByteArray.size_extract, readS_size hx, if_pos hin]
            have := wholes_ge (9 + m + 32)
            omega
          rw [hd] at hu
          rw [show 9 + m + 32 = 41 + m from by omega]
          exact hu
        · exact .inr (by omega)
      rw [r2]
  unfold nextS at hn ⊢
  rw [hg]
  have hb : (sealAns st.prev (st.seq : Int) (guessS xs st.used)).1.size / 64 = wholes (41 + p.1.data.size) := by
    have he : (sealAns st.prev (st.seq : Int) (guessS xs st.used)).1 = p.2 := by
      split at hn
      · exact congrArg Prod.snd (Option.some.inj hn)
      · cases hn
    rw [he, h3, recBytes_size, Nat.mul_div_cancel _ (by decide)]
  rw [hb] at hn ⊢
  rw [h.read (.inl hu)]
  exact hn
theorem stand_mono {xs : List ByteArray} {st st' : JSt} {l : List (Rec × ByteArray)} (h : stand xs st l = some st') : st.used ≤ st'.used := by
  induction l generalizing st with
  | nil => rw [Option.some.inj h]; exact Nat.le_refl _
  | cons q l ih =>
    unfold stand at h
    by_cases hq : nextS xs st = some q
    · rw [if_pos hq] at h
      exact Nat.le_trans (Nat.le_add_right _ _) (ih h)
    · rw [if_neg hq] at h
      cases h
theorem stand_agree {xs ys : List ByteArray} {st st' : JSt} {l : List (Rec × ByteArray)} {u : Nat} (hx : ∀ s ∈ xs, s.size = 64) (h : Agree xs ys u) (hs : stand xs st l = some st') (hu : st'.used ≤ u) : stand ys st l = some st' := by
  induction l generalizing st with
  | nil => exact hs
  | cons q l ih =>
    unfold stand at hs ⊢
    by_cases hq : nextS xs st = some q
    · rw [if_pos hq] at hs
      have hm := stand_mono hs
      obtain ⟨_, _, h3, _, _⟩ := nextS_some hq hx
      have hz : (st.pass q.1 q.2).used = st.used + wholes (41 + q.1.data.size) := by
        show st.used + q.2.size / 64 = _
        rw [h3, recBytes_size, Nat.mul_div_cancel _ (by decide)]
      rw [if_pos (next_agree hx h hq (by omega))]
      exact ih hs
    · rw [if_neg hq] at hs
      cases hs
theorem ext_cut (s : ByteArray) (a b : Nat) : (s.extract a b).data.toList = (s.data.toList.drop a).take (b - a) := by
  simp only [ByteArray.data_extract, Array.toList_extract, List.extract_eq_take_drop]
theorem rec_list (prev : List UInt8) (s k : Nat) (d : ByteArray) : ∃ z, (recBytes prev s k d).data.toList = [65, 74] ++ ((be 4 s).data.toList ++ ((be 1 k).data.toList ++ ((be 2 d.size).data.toList ++ (d.data.toList ++ (recHash prev s k d ++ z))))) := by
  unfold recBytes recRaw recHead
  simp only [data_append, List.append_assoc, txt_list]
  exact ⟨_, rfl⟩
theorem be_len (n v : Nat) : (be n v).data.toList.length = n := by rw [data_length, be_size]
/-- The parts of a record's bytes. -/
theorem rec_parts (prev : List UInt8) (s k : Nat) (d : ByteArray) (hk : k ≤ 255) (hd : d.size ≤ 1024) :
    num ((recBytes prev s k d).extract 6 7) = k ∧ num ((recBytes prev s k d).extract 7 9) = d.size ∧ (recBytes prev s k d).extract 9 (9 + d.size) = d ∧ ((recBytes prev s k d).data.toList.drop (9 + d.size)).take 32 = recHash prev s k d := by
  obtain ⟨z, hz⟩ := rec_list prev s k d
  have l4 := be_len 4 s
  have l1 := be_len 1 k
  have l2 := be_len 2 d.size
  have ld : d.data.toList.length = d.size := data_length d
  have hh := recHash_len prev s k d
  have d6 : ∀ t : List UInt8, ([65, 74] ++ ((be 4 s).data.toList ++ t)).drop 6 = t := fun t => by
    rw [← List.append_assoc, List.drop_append_of_le_length (by rw [List.length_append, l4]; exact Nat.le_refl _), List.drop_of_length_le (by rw [List.length_append, l4]; exact Nat.le_refl _)]
    rfl
  have d7 : ∀ t : List UInt8, ([65, 74] ++ ((be 4 s).data.toList ++ ((be 1 k).data.toList ++ t))).drop 7 = t := fun t => by
    rw [show 7 = 6 + 1 from rfl, ← List.drop_drop, d6, List.drop_append_of_le_length (by rw [l1]; exact Nat.le_refl _), List.drop_of_length_le (by rw [l1]; exact Nat.le_refl _)]
    rfl
  have d9 : ∀ t : List UInt8, ([65, 74] ++ ((be 4 s).data.toList ++ ((be 1 k).data.toList ++ ((be 2 d.size).data.toList ++ t)))).drop 9 = t := fun t => by
    rw [show 9 = 7 + 2 from rfl, ← List.drop_drop, d7, List.drop_append_of_le_length (by rw [l2]; exact Nat.le_refl _), List.drop_of_length_le (by rw [l2]; exact Nat.le_refl _)]
    rfl
  refine ⟨?_, ?_, ?_, ?_⟩
  · unfold num
    rw [ext_cut, hz, d6, List.take_append_of_le_length (by rw [l1]; decide), List.take_of_length_le (by rw [l1]; decide)]
    exact numL_be 1 k (by omega)
  · unfold num
    rw [ext_cut, hz, d7, List.take_append_of_le_length (by rw [l2]; decide), List.take_of_length_le (by rw [l2]; decide)]
    exact numL_be 2 d.size (by omega)
  · refine bytes_ext ?_
    rw [ext_cut, hz, d9, Nat.add_sub_cancel_left, List.take_append_of_le_length (by rw [ld]; exact Nat.le_refl _), List.take_of_length_le (by rw [ld]; exact Nat.le_refl _)]
  · rw [hz, ← List.drop_drop, d9, List.drop_append_of_le_length (by rw [ld]; exact Nat.le_refl _), List.drop_of_length_le (by rw [ld]; exact Nat.le_refl _), List.nil_append, List.take_append_of_le_length (by rw [hh]; exact Nat.le_refl _), List.take_of_length_le (by rw [hh]; exact Nat.le_refl _)]

/-- From sector u on stand k sectors of a text. -/
structure Holds64 (ys : List ByteArray) (u k : Nat) (t : ByteArray) : Prop where
  size : t.size = k * 64
  fits : u + k ≤ ys.length
  at_ : ∀ i, i < k → ys[u + i]? = some (t.extract (i * 64) ((i + 1) * 64))
theorem Holds64.joins {ys : List ByteArray} {u k : Nat} {t : ByteArray} (h : Holds64 ys u k t) {m : Nat} (hm : m ≤ k) : joinS ((ys.drop u).take m) = t.data.toList.take (m * 64) := by
  induction m with
  | zero => rw [List.take_zero, Nat.zero_mul, List.take_zero]; rfl
  | succ m ih =>
    rw [joinS_next (k := m) (x := t.extract (m * 64) ((m + 1) * 64)) (by rw [List.getElem?_drop]; exact h.at_ m (by omega)), ih (by omega), ext_cut, show (m + 1) * 64 = m * 64 + 64 from by omega, Nat.add_sub_cancel_left, List.take_add]
theorem Holds64.read {ys : List ByteArray} {u k : Nat} {t : ByteArray} (h : Holds64 ys u k t) {m : Nat} (hm : m ≤ k) : (readS ys u m).data.toList = t.data.toList.take (m * 64) := by
  unfold readS
  rw [if_pos (by have := h.fits; omega), joinB_list, h.joins hm]
theorem Holds64.all {ys : List ByteArray} {u k : Nat} {t : ByteArray} (h : Holds64 ys u k t) : readS ys u k = t := bytes_ext (by rw [h.read (Nat.le_refl _), List.take_of_length_le (by rw [data_length, h.size]; exact Nat.le_refl _)])
theorem cut_take (s t : ByteArray) (a b m : Nat) (hb : b ≤ m) (h : s.data.toList = t.data.toList.take m) : s.extract a b = t.extract a b := bytes_ext (by
  rw [ext_cut, ext_cut, h, List.drop_take, List.take_take, Nat.min_eq_left (by omega)])
theorem next_written {ys : List ByteArray} {st : JSt} {R : Rec} (hm : sealMay (st.seq : Int) R = true) (h : Holds64 ys st.used (wholes (41 + R.data.size)) (recBytes st.prev st.seq R.kind.toNat R.data)) : nextS ys st = some (R, recBytes st.prev st.seq R.kind.toNat R.data) := by
  obtain ⟨m1, m2, m3, m4, m5⟩ := sealMay_iff.1 hm
  have hw := wholes_ge (41 + R.data.size)
  obtain ⟨p1, p2, p3, -⟩ := rec_parts st.prev st.seq R.kind.toNat R.data (by omega) m5
  have hz := recBytes_size st.prev st.seq R.kind.toNat R.data
  have h1 := h.read (m := 1) (by omega)
  have hg : guessS ys st.used = R := by
    have e1 : (readS ys st.used 1).size = 64 := by rw [← data_length, h1, List.length_take, data_length, hz]; omega
    have e2 : (readS ys st.used 1).extract 7 9 = (recBytes st.prev st.seq R.kind.toNat R.data).extract 7 9 := cut_take _ _ 7 9 (1 * 64) (by decide) h1
    have e3 : (readS ys st.used 1).extract 6 7 = (recBytes st.prev st.seq R.kind.toNat R.data).extract 6 7 := cut_take _ _ 6 7 (1 * 64) (by decide) h1
    unfold guessS
    rw [if_neg (by omega), e2, p2, e3, p1, show 9 + R.data.size + 32 = 41 + R.data.size from by omega, h.all, if_neg (by omega), p3]
    obtain ⟨kd, d⟩ := R
    have h0 : (0 : Int) ≤ kd := m3
    show (⟨((kd.toNat : Nat) : Int), d⟩ : Rec) = ⟨kd, d⟩
    rw [show ((kd.toNat : Nat) : Int) = kd from by omega]
  unfold nextS
  have he : sealAns st.prev (st.seq : Int) R = (recBytes st.prev st.seq R.kind.toNat R.data, 0) := by
    unfold sealAns
    rw [if_pos hm]
    rfl
  rw [hg, he]
  refine if_pos ⟨rfl, ?_⟩
  show readS ys st.used ((recBytes st.prev st.seq R.kind.toNat R.data).size / 64) = _
  rw [hz, Nat.mul_div_cancel _ (by decide), h.all]

end Go.Proofs.YtmgaegaibglnhaaGreat
