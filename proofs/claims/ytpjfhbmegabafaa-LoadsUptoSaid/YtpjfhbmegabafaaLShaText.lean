/- SHA-256 (FIPS 180-4) as plain functions on words of 32 bits. No function of the program is named here.
   A text worked in, block by block; and its padding. No function of the program is named here. -/
namespace Go.Proofs.Ytpjfhbmegabafaa.Sha

/-- To the right, what falls out comes in at the left. -/
def rot (x : BitVec 32) (n : Nat) : BitVec 32 := (x >>> n) ||| (x <<< (32 - n))
def sig0 (x : BitVec 32) : BitVec 32 := rot x 7 ^^^ rot x 18 ^^^ x >>> 3
def sig1 (x : BitVec 32) : BitVec 32 := rot x 17 ^^^ rot x 19 ^^^ x >>> 10
def sum0 (x : BitVec 32) : BitVec 32 := rot x 2 ^^^ rot x 13 ^^^ rot x 22
def sum1 (x : BitVec 32) : BitVec 32 := rot x 6 ^^^ rot x 11 ^^^ rot x 25
def ch (e f g : BitVec 32) : BitVec 32 := (e &&& f) ^^^ (~~~e &&& g)
def maj (a b c : BitVec 32) : BitVec 32 := (a &&& b) ^^^ (a &&& c) ^^^ (b &&& c)

theorem ch_alt (e f g : BitVec 32) : g ^^^ (e &&& (f ^^^ g)) = ch e f g := by
  unfold ch
  ext i
  simp
  cases e[i] <;> cases f[i] <;> cases g[i] <;> rfl

theorem maj_alt (a b c : BitVec 32) : (a &&& b) ||| (c &&& (a ||| b)) = maj a b c := by
  unfold maj
  ext i
  simp
  cases a[i] <;> cases b[i] <;> cases c[i] <;> rfl

def ks : List (BitVec 32) := [
  0x428a2f98, 0x71374491, 0xb5c0fbcf, 0xe9b5dba5, 0x3956c25b, 0x59f111f1, 0x923f82a4, 0xab1c5ed5,
  0xd807aa98, 0x12835b01, 0x243185be, 0x550c7dc3, 0x72be5d74, 0x80deb1fe, 0x9bdc06a7, 0xc19bf174,
  0xe49b69c1, 0xefbe4786, 0x0fc19dc6, 0x240ca1cc, 0x2de92c6f, 0x4a7484aa, 0x5cb0a9dc, 0x76f988da,
  0x983e5152, 0xa831c66d, 0xb00327c8, 0xbf597fc7, 0xc6e00bf3, 0xd5a79147, 0x06ca6351, 0x14292967,
  0x27b70a85, 0x2e1b2138, 0x4d2c6dfc, 0x53380d13, 0x650a7354, 0x766a0abb, 0x81c2c92e, 0x92722c85,
  0xa2bfe8a1, 0xa81a664b, 0xc24b8b70, 0xc76c51a3, 0xd192e819, 0xd6990624, 0xf40e3585, 0x106aa070,
  0x19a4c116, 0x1e376c08, 0x2748774c, 0x34b0bcb5, 0x391c0cb3, 0x4ed8aa4a, 0x5b9cca4f, 0x682e6ff3,
  0x748f82ee, 0x78a5636f, 0x84c87814, 0x8cc70208, 0x90befffa, 0xa4506ceb, 0xbef9a3f7, 0xc67178f2]

structure S8 where
  a : BitVec 32
  b : BitVec 32
  c : BitVec 32
  d : BitVec 32
  e : BitVec 32
  f : BitVec 32
  g : BitVec 32
  h : BitVec 32

def S8.first : S8 := ⟨0x6a09e667, 0xbb67ae85, 0x3c6ef372, 0xa54ff53a, 0x510e527f, 0x9b05688c, 0x1f83d9ab, 0x5be0cd19⟩

def S8.add (s t : S8) : S8 := ⟨s.a + t.a, s.b + t.b, s.c + t.c, s.d + t.d, s.e + t.e, s.f + t.f, s.g + t.g, s.h + t.h⟩

/-- What a round adds. -/
def S8.mixed (s : S8) (k w : BitVec 32) : BitVec 32 := s.h + sum1 s.e + ch s.e s.f s.g + k + w

def S8.round (s : S8) (k w : BitVec 32) : S8 :=
  ⟨s.mixed k w + (sum0 s.a + maj s.a s.b s.c), s.a, s.b, s.c, s.d + s.mixed k w, s.e, s.f, s.g⟩

/-- The word of a block whose bytes begin at 4 i. -/
def word (block : List UInt8) (i : Nat) : BitVec 32 :=
  (BitVec.ofNat 32 (block.getD (4 * i) 0).toNat) <<< 24 ||| (BitVec.ofNat 32 (block.getD (4 * i + 1) 0).toNat) <<< 16 |||
    (BitVec.ofNat 32 (block.getD (4 * i + 2) 0).toNat) <<< 8 ||| BitVec.ofNat 32 (block.getD (4 * i + 3) 0).toNat

theorem word_def (block : List UInt8) (i : Nat) : word block i = (BitVec.ofNat 32 (block.getD (4 * i) 0).toNat) <<< 24 ||| (BitVec.ofNat 32 (block.getD (4 * i + 1) 0).toNat) <<< 16 |||
    (BitVec.ofNat 32 (block.getD (4 * i + 2) 0).toNat) <<< 8 ||| BitVec.ofNat 32 (block.getD (4 * i + 3) 0).toNat := rfl

/-- The first n words of the schedule. -/
def sched (block : List UInt8) : Nat → List (BitVec 32)
  | 0 => []
  | n + 1 =>
    let ws := sched block n
    ws ++ [if n < 16 then word block n else ws.getD (n - 16) 0 + sig0 (ws.getD (n - 15) 0) + ws.getD (n - 7) 0 + sig1 (ws.getD (n - 2) 0)]

theorem sched_length (block : List UInt8) (n : Nat) : (sched block n).length = n := by
  induction n with
  | zero => rfl
  | succ n ih => simp [sched, ih]

theorem sched_next (block : List UInt8) (n : Nat) (h : 16 ≤ n) : sched block (n + 1) = sched block n ++
    [(sched block n).getD (n - 16) 0 + sig0 ((sched block n).getD (n - 15) 0) + (sched block n).getD (n - 7) 0 + sig1 ((sched block n).getD (n - 2) 0)] := by
  have e : ¬ n < 16 := by omega
  simp [sched, e]

/-- n rounds. -/
def rounds (ws : List (BitVec 32)) : Nat → S8 → S8
  | 0, s => s
  | n + 1, s => (rounds ws n s).round (ks.getD n 0) (ws.getD n 0)

theorem round_is {a b c d e f g h k w m d' h' : BitVec 32} (hm : h + (sum1 e + ch e f g + k + w) = m) (hd : d + m = d') (hh : m + (sum0 a + maj a b c) = h') :
    S8.round ⟨a, b, c, d, e, f, g, h⟩ k w = ⟨h', a, b, c, d', e, f, g⟩ := by
  have e1 : S8.mixed ⟨a, b, c, d, e, f, g, h⟩ k w = m := by
    rw [← hm]
    simp only [S8.mixed]
    ac_rfl
  simp only [S8.round, e1, hd, hh]

theorem rounds_next (ws : List (BitVec 32)) (n : Nat) (s : S8) : rounds ws (n + 1) s = (rounds ws n s).round (ks.getD n 0) (ws.getD n 0) := rfl

def compress (s : S8) (block : List UInt8) : S8 := s.add (rounds (sched block 64) 64 s)

/-- The whole blocks of a text, worked in: n of them. -/
def blocks (l : List UInt8) : Nat → S8
  | 0 => S8.first
  | n + 1 => compress (blocks l n) ((l.drop (64 * n)).take 64)

def be (size : Nat) (x : Nat) : List UInt8 := (List.range size).map fun i => UInt8.ofNat (x / 256 ^ (size - 1 - i))

def pad (l : List UInt8) : List UInt8 := l ++ [0x80] ++ List.replicate ((120 - (l.length + 1) % 64) % 64) 0 ++ be 8 (8 * l.length)

def bytes (x : BitVec 32) : List UInt8 := be 4 x.toNat
def S8.bytes (s : S8) : List UInt8 :=
  Sha.bytes s.a ++ Sha.bytes s.b ++ Sha.bytes s.c ++ Sha.bytes s.d ++ Sha.bytes s.e ++ Sha.bytes s.f ++ Sha.bytes s.g ++ Sha.bytes s.h

def sha (l : List UInt8) : List UInt8 := (blocks (pad l) ((pad l).length / 64)).bytes

end Go.Proofs.Ytpjfhbmegabafaa.Sha
namespace Go.Proofs.Ytpjfhbmegabafaa.Sha

attribute [local irreducible] compress

theorem blocks_succ (l : List UInt8) (k : Nat) : blocks l (k + 1) = compress (blocks l k) ((l.drop (64 * k)).take 64) := rfl

theorem blocks_more (l x : List UInt8) (k : Nat) (h : 64 * k ≤ l.length) : blocks (l ++ x) k = blocks l k := by
  induction k with
  | zero => rfl
  | succ k ih =>
    rw [blocks_succ, blocks_succ, ih (by omega), List.drop_append_of_le_length (by omega), List.take_append_of_le_length (by simp; omega)]

/-- What a digest holds of a text: the words of its whole blocks, the bytes behind them. -/
def Valid (s : S8) (rest t : List UInt8) : Prop := rest.length = 64 ∧ s = blocks t (t.length / 64) ∧ rest.take (t.length % 64) = t.drop (64 * (t.length / 64))

/-- More bytes. -/
def laid (rest x : List UInt8) (k : Nat) : List UInt8 := rest.take k ++ x ++ rest.drop (k + x.length)

theorem laid_length (rest x : List UInt8) (k : Nat) (h : k + x.length ≤ rest.length) : (laid rest x k).length = rest.length := by
  simp [laid]
  omega

theorem valid_first (rest : List UInt8) (h : rest.length = 64) : Valid S8.first rest [] := ⟨h, rfl, rfl⟩

theorem valid_part {s : S8} {rest t x : List UInt8} (h : Valid s rest t) (hx : t.length % 64 + x.length < 64) : Valid s (laid rest x (t.length % 64)) (t ++ x) := by
  obtain ⟨hl, hs, hr⟩ := h
  have hlen : (t ++ x).length = t.length + x.length := List.length_append
  have hd : (t.length + x.length) / 64 = t.length / 64 := by omega
  have hm : (t.length + x.length) % 64 = t.length % 64 + x.length := by omega
  have ht : (rest.take (t.length % 64)).length = t.length % 64 := by simp; omega
  refine ⟨by rw [laid_length _ _ _ (by omega)]; exact hl, ?_, ?_⟩
  · rw [hlen, hd, blocks_more _ _ _ (by omega)]
    exact hs
  · rw [hlen, hd, hm, List.drop_append_of_le_length (by omega), ← hr]
    unfold laid
    rw [List.take_append_of_le_length (by simp; omega), List.take_of_length_le (by simp; omega)]

theorem valid_whole {s : S8} {rest t x : List UInt8} (h : Valid s rest t) (hx : t.length % 64 + x.length = 64) : Valid (compress s (laid rest x (t.length % 64))) (laid rest x (t.length % 64)) (t ++ x) := by
  obtain ⟨hl, hs, hr⟩ := h
  have hlen : (t ++ x).length = t.length + x.length := List.length_append
  have hd : (t.length + x.length) / 64 = t.length / 64 + 1 := by omega
  have hm : (t.length + x.length) % 64 = 0 := by omega
  have ht : (rest.take (t.length % 64)).length = t.length % 64 := by simp; omega
  have hb : laid rest x (t.length % 64) = t.drop (64 * (t.length / 64)) ++ x := by
    unfold laid
    rw [List.drop_of_length_le (by omega), List.append_nil, hr]
  refine ⟨by rw [laid_length _ _ _ (by omega)]; exact hl, ?_, ?_⟩
  · rw [hlen, hd, blocks_succ, blocks_more _ _ _ (by omega), ← hs, List.drop_append_of_le_length (by omega), hb, List.take_of_length_le]
    rw [← hb, laid_length _ _ _ (by omega)]
    omega
  · rw [hlen, hm, hd, List.take_zero, List.drop_of_length_le]
    rw [hlen]
    omega

theorem beL8_length (n : Nat) : (be 8 n).length = 8 := by simp [be]

/-- The block behind the last whole one, and what is padded. -/
theorem pad_short {s : S8} {rest t : List UInt8} (h : Valid s rest t) (hx : t.length % 64 < 56) :
    compress s (rest.take (t.length % 64) ++ [0x80] ++ List.replicate (55 - t.length % 64) 0 ++ be 8 (8 * t.length)) = blocks (pad t) ((pad t).length / 64) := by
  obtain ⟨hl, hs, hr⟩ := h
  have hz : (120 - (t.length + 1) % 64) % 64 = 55 - t.length % 64 := by omega
  have hp : pad t = t ++ ([0x80] ++ List.replicate (55 - t.length % 64) 0 ++ be 8 (8 * t.length)) := by
    unfold pad
    rw [hz]
    simp only [List.append_assoc]
  have hlen : (pad t).length / 64 = t.length / 64 + 1 := by
    rw [hp]
    simp [beL8_length]
    omega
  rw [hlen, hp, blocks_succ, blocks_more _ _ _ (by omega), ← hs, List.drop_append_of_le_length (by omega), ← hr]
  congr 1
  refine Eq.symm ((List.take_of_length_le ?_).trans ?_)
  · simp [beL8_length, hl]
    omega
  · simp only [List.append_assoc]

theorem pad_long {s : S8} {rest t : List UInt8} (h : Valid s rest t) (hx : 56 ≤ t.length % 64) :
    compress (compress s (rest.take (t.length % 64) ++ [0x80] ++ List.replicate (63 - t.length % 64) 0)) (List.replicate 56 0 ++ be 8 (8 * t.length)) = blocks (pad t) ((pad t).length / 64) := by
  obtain ⟨hl, hs, hr⟩ := h
  have hz : (120 - (t.length + 1) % 64) % 64 = (63 - t.length % 64) + 56 := by omega
  have hp : pad t = (t ++ ([0x80] ++ List.replicate (63 - t.length % 64) 0)) ++ (List.replicate 56 0 ++ be 8 (8 * t.length)) := by
    unfold pad
    rw [hz, ← List.replicate_append_replicate]
    simp only [List.append_assoc]
  have hl1 : (t ++ ([0x80] ++ List.replicate (63 - t.length % 64) 0)).length = 64 * (t.length / 64 + 1) := by
    simp
    omega
  have hlen : (pad t).length / 64 = t.length / 64 + 1 + 1 := by
    rw [hp, List.length_append, hl1]
    simp [beL8_length]
  rw [hlen, hp, blocks_succ, blocks_more _ _ _ (by omega), ← hl1, List.drop_left, blocks_succ, blocks_more _ _ _ (by omega), ← hs, List.drop_append_of_le_length (by omega), ← hr]
  congr 1
  · congr 1
    refine Eq.symm ((List.take_of_length_le ?_).trans ?_)
    · simp [hl]
      omega
    · simp only [List.append_assoc]

theorem laid_nil (r : List UInt8) (k : Nat) : laid r [] k = r := by
  unfold laid
  rw [List.append_nil, List.length_nil, Nat.add_zero, List.take_append_drop]

theorem laid_snoc (r x : List UInt8) (b : UInt8) (k : Nat) (h : k + x.length < r.length) : laid (laid r x k) [b] (k + x.length) = laid r (x ++ [b]) k := by
  have h1 : (r.take k ++ x).length = k + x.length := by
    rw [List.length_append, List.length_take]
    omega
  unfold laid
  rw [← h1, List.take_left, ← List.drop_drop, List.drop_left, List.drop_drop, h1]
  simp [Nat.add_assoc]

theorem be_at (size x i : Nat) (h : i < size) : (be size x)[i]? = some (UInt8.ofNat (x / 256 ^ (size - 1 - i))) := by
  simp [be, h]

theorem be_take (size x i : Nat) (h : i < size) : (be size x).take (i + 1) = (be size x).take i ++ [UInt8.ofNat (x / 256 ^ (size - 1 - i))] := by
  have hl : i < (be size x).length := by simpa [be] using h
  have e := be_at size x i h
  rw [List.getElem?_eq_getElem hl] at e
  rw [List.take_succ_eq_append_getElem hl, Option.some.inj e]

theorem sha_def (l : List UInt8) : sha l = (blocks (pad l) ((pad l).length / 64)).bytes := rfl

end Go.Proofs.Ytpjfhbmegabafaa.Sha
