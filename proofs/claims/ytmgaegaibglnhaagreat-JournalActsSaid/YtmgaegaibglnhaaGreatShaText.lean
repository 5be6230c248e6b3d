/- A text worked in, block by block; and its padding. No function of the program is named here. -/
import Derived.Test.YtmgaegaibglnhaaGreatSha
namespace Go.Proofs.YtmgaegaibglnhaaGreat.Sha

attribute [local irreducible] compress

theorem blocks_succ (l : List UInt8) (k : Nat) : blocks l (k + 1) = compress (blocks l k) ((l.drop (64 * k)).take 64) := rfl

theorem blocks_more (l x : List UInt8) (k : Nat) (h : 64 * k ≤ l.length) : blocks (l ++ x) k = blocks l k := by
  induction k with
  | zero => rfl
  | succ k ih =>
    rw [blocks_succ, blocks_succ, ih (by omega), List.drop_append_of_le_length (by omega), List.take_append_of_le_length (by simp; omega)]

/-- What a digest holds of a text: the words of its whole blocks, the bytes behind them. -/
def Valid (s : S8) (rest t : List UInt8) : Prop := rest.length = 64 ∧ s = blocks t (t.length / 64) ∧ rest.take (t.length % 64) = t.drop (64 * (t.length / 64))

/-- More bytes. -/
def laid (rest x : List UInt8) (k : Nat) : List UInt8 := rest.take k ++ x ++ rest.drop (k + x.length)

theorem laid_length (rest x : List UInt8) (k : Nat) (h : k + x.length ≤ rest.length) : (laid rest x k).length = rest.length := by
  simp [laid]
  omega

theorem valid_first (rest : List UInt8) (h : rest.length = 64) : Valid S8.first rest [] := ⟨h, rfl, rfl⟩

theorem valid_part {s : S8} {rest t x : List UInt8} (h : Valid s rest t) (hx : t.length % 64 + x.length < 64) : Valid s (laid rest x (t.length % 64)) (t ++ x) := by
  obtain ⟨hl, hs, hr⟩ := h
  have hlen : (t ++ x).length = t.length + x.length := List.length_append
  have hd : (t.length + x.length) / 64 = t.length / 64 := by omega
  have hm : (t.length + x.length) % 64 = t.length % 64 + x.length := by omega
  have ht : (rest.take (t.length % 64)).length = t.length % 64 := by simp; omega
  refine ⟨by rw [laid_length _ _ _ (by omega)]; exact hl, ?_, ?_⟩
  · rw [hlen, hd, blocks_more _ _ _ (by omega)]
    exact hs
  · rw [hlen, hd, hm, List.drop_append_of_le_length (by omega), ← hr]
    unfold laid
    rw [List.take_append_of_le_length (by simp; omega), List.take_of_length_le (by simp; omega)]

theorem valid_whole {s : S8} {rest t x : List UInt8} (h : Valid s rest t) (hx : t.length % 64 + x.length = 64) : Valid (compress s (laid rest x (t.length % 64))) (laid rest x (t.length % 64)) (t ++ x) := by
  obtain ⟨hl, hs, hr⟩ := h
  have hlen : (t ++ x).length = t.length + x.length := List.length_append
  have hd : (t.length + x.length) / 64 = t.length / 64 + 1 := by omega
  have hm : (t.length + x.length) % 64 = 0 := by omega
  have ht : (rest.take (t.length % 64)).length = t.length % 64 := by simp; omega
  have hb : laid rest x (t.length % 64) = t.drop (64 * (t.length / 64)) ++ x := by
    unfold laid
    rw [List.drop_of_length_le (by omega), List.append_nil, hr]
  refine ⟨by rw [laid_length _ _ _ (by omega)]; exact hl, ?_, ?_⟩
  · rw [hlen, hd, blocks_succ, blocks_more _ _ _ (by omega), ← hs, List.drop_append_of_le_length (by omega), hb, List.take_of_length_le]
    rw [← hb, laid_length _ _ _ (by omega)]
    omega
  · rw [hlen, hm, hd, List.take_zero, List.drop_of_length_le]
    rw [hlen]
    omega

theorem beL8_length (n : Nat) : (be 8 n).length = 8 := by simp [be]

/-- The block behind the last whole one, and what is padded. -/
theorem pad_short {s : S8} {rest t : List UInt8} (h : Valid s rest t) (hx : t.length % 64 < 56) :
    compress s (rest.take (t.length % 64) ++ [0x80] ++ List.replicate (55 - t.length % 64) 0 ++ be 8 (8 * t.length)) = blocks (pad t) ((pad t).length / 64) := by
  obtain ⟨hl, hs, hr⟩ := h
  have hz : (120 - (t.length + 1) % 64) % 64 = 55 - t.length % 64 := by omega
  have hp : pad t = t ++ ([0x80] ++ List.replicate (55 - t.length % 64) 0 ++ be 8 (8 * t.length)) := by
    unfold pad
    rw [hz]
    simp only [List.append_assoc]
  have hlen : (pad t).length / 64 = t.length / 64 + 1 := by
    rw [hp]
    simp [beL8_length]
    omega
  rw [hlen, hp, blocks_succ, blocks_more _ _ _ (by omega), ← hs, List.drop_append_of_le_length (by omega), ← hr]
  congr 1
  refine Eq.symm ((List.take_of_length_le ?_).trans ?_)
  · simp [beL8_length, hl]
    omega
  · simp only [List.append_assoc]

theorem pad_long {s : S8} {rest t : List UInt8} (h : Valid s rest t) (hx : 56 ≤ t.length % 64) :
    compress (compress s (rest.take (t.length % 64) ++ [0x80] ++ List.replicate (63 - t.length % 64) 0)) (List.replicate 56 0 ++ be 8 (8 * t.length)) = blocks (pad t) ((pad t).length / 64) := by
  obtain ⟨hl, hs, hr⟩ := h
  have hz : (120 - (t.length + 1) % 64) % 64 = (63 - t.length % 64) + 56 := by omega
  have hp : pad t = (t ++ ([0x80] ++ List.replicate (63 - t.length % 64) 0)) ++ (List.replicate 56 0 ++ be 8 (8 * t.length)) := by
    unfold pad
    rw [hz, ← List.replicate_append_replicate]
    simp only [List.append_assoc]
  have hl1 : (t ++ ([0x80] ++ List.replicate (63 - t.length % 64) 0)).length = 64 * (t.length / 64 + 1) := by
    simp
    omega
  have hlen : (pad t).length / 64 = t.length / 64 + 1 + 1 := by
    rw [hp, List.length_append, hl1]
    simp [beL8_length]
  rw [hlen, hp, blocks_succ, blocks_more _ _ _ (by omega), ← hl1, List.drop_left, blocks_succ, blocks_more _ _ _ (by omega), ← hs, List.drop_append_of_le_length (by omega), ← hr]
  congr 1
  · congr 1
    refine Eq.symm ((List.take_of_length_le ?_).trans ?_)
    · simp [hl]
      omega
    · simp only [List.append_assoc]

theorem laid_nil (r : List UInt8) (k : Nat) : laid r [] k = r := by
  unfold laid
  rw [List.append_nil, List.length_nil, Nat.add_zero, List.take_append_drop]

theorem laid_snoc (r x : List UInt8) (b : UInt8) (k : Nat) (h : k + x.length < r.length) : laid (laid r x k) [b] (k + x.length) = laid r (x ++ [b]) k := by
  have h1 : (r.take k ++ x).length = k + x.length := by
    rw [List.length_append, List.length_take]
    omega
  unfold laid
  rw [← h1, List.take_left, ← List.drop_drop, List.drop_left, List.drop_drop, h1]
  simp [Nat.add_assoc]

theorem be_at (size x i : Nat) (h : i < size) : (be size x)[i]? = some (UInt8.ofNat (x / 256 ^ (size - 1 - i))) := by
  simp [be, h]

theorem be_take (size x i : Nat) (h : i < size) : (be size x).take (i + 1) = (be size x).take i ++ [UInt8.ofNat (x / 256 ^ (size - 1 - i))] := by
  have hl : i < (be size x).length := by simpa [be] using h
  have e := be_at size x i h
  rw [List.getElem?_eq_getElem hl] at e
  rw [List.take_succ_eq_append_getElem hl, Option.some.inj e]

theorem sha_def (l : List UInt8) : sha l = (blocks (pad l) ((pad l).length / 64)).bytes := rfl

end Go.Proofs.YtmgaegaibglnhaaGreat.Sha
