/- SHA-256 (FIPS 180-4) as plain functions on words of 32 bits. No function of the program is named here. -/
namespace Go.Proofs.YtmgaegaibglnhaaGreat.Sha

/-- To the right, what falls out comes in at the left. -/
def rot (x : BitVec 32) (n : Nat) : BitVec 32 := (x >>> n) ||| (x <<< (32 - n))
def sig0 (x : BitVec 32) : BitVec 32 := rot x 7 ^^^ rot x 18 ^^^ x >>> 3
def sig1 (x : BitVec 32) : BitVec 32 := rot x 17 ^^^ rot x 19 ^^^ x >>> 10
def sum0 (x : BitVec 32) : BitVec 32 := rot x 2 ^^^ rot x 13 ^^^ rot x 22
def sum1 (x : BitVec 32) : BitVec 32 := rot x 6 ^^^ rot x 11 ^^^ rot x 25
def ch (e f g : BitVec 32) : BitVec 32 := (e &&& f) ^^^ (~~~e &&& g)
def maj (a b c : BitVec 32) : BitVec 32 := (a &&& b) ^^^ (a &&& c) ^^^ (b &&& c)

theorem ch_alt (e f g : BitVec 32) : g ^^^ (e &&& (f ^^^ g)) = ch e f g := by
  unfold ch
  ext i
  simp
  cases e[i] <;> cases f[i] <;> cases g[i] <;> rfl

theorem maj_alt (a b c : BitVec 32) : (a &&& b) ||| (c &&& (a ||| b)) = maj a b c := by
  unfold maj
  ext i
  simp
  cases a[i] <;> cases b[i] <;> cases c[i] <;> rfl

def ks : List (BitVec 32) := [
  0x428a2f98, 0x71374491, 0xb5c0fbcf, 0xe9b5dba5, 0x3956c25b, 0x59f111f1, 0x923f82a4, 0xab1c5ed5,
  0xd807aa98, 0x12835b01, 0x243185be, 0x550c7dc3, 0x72be5d74, 0x80deb1fe, 0x9bdc06a7, 0xc19bf174,
  0xe49b69c1, 0xefbe4786, 0x0fc19dc6, 0x240ca1cc, 0x2de92c6f, 0x4a7484aa, 0x5cb0a9dc, 0x76f988da,
  0x983e5152, 0xa831c66d, 0xb00327c8, 0xbf597fc7, 0xc6e00bf3, 0xd5a79147, 0x06ca6351, 0x14292967,
  0x27b70a85, 0x2e1b2138, 0x4d2c6dfc, 0x53380d13, 0x650a7354, 0x766a0abb, 0x81c2c92e, 0x92722c85,
  0xa2bfe8a1, 0xa81a664b, 0xc24b8b70, 0xc76c51a3, 0xd192e819, 0xd6990624, 0xf40e3585, 0x106aa070,
  0x19a4c116, 0x1e376c08, 0x2748774c, 0x34b0bcb5, 0x391c0cb3, 0x4ed8aa4a, 0x5b9cca4f, 0x682e6ff3,
  0x748f82ee, 0x78a5636f, 0x84c87814, 0x8cc70208, 0x90befffa, 0xa4506ceb, 0xbef9a3f7, 0xc67178f2]

structure S8 where
  a : BitVec 32
  b : BitVec 32
  c : BitVec 32
  d : BitVec 32
  e : BitVec 32
  f : BitVec 32
  g : BitVec 32
  h : BitVec 32

def S8.first : S8 := ⟨0x6a09e667, 0xbb67ae85, 0x3c6ef372, 0xa54ff53a, 0x510e527f, 0x9b05688c, 0x1f83d9ab, 0x5be0cd19⟩

def S8.add (s t : S8) : S8 := ⟨s.a + t.a, s.b + t.b, s.c + t.c, s.d + t.d, s.e + t.e, s.f + t.f, s.g + t.g, s.h + t.h⟩

/-- What a round adds. -/
def S8.mixed (s : S8) (k w : BitVec 32) : BitVec 32 := s.h + sum1 s.e + ch s.e s.f s.g + k + w

def S8.round (s : S8) (k w : BitVec 32) : S8 :=
  ⟨s.mixed k w + (sum0 s.a + maj s.a s.b s.c), s.a, s.b, s.c, s.d + s.mixed k w, s.e, s.f, s.g⟩

/-- The word of a block whose bytes begin at 4 i. -/
def word (block : List UInt8) (i : Nat) : BitVec 32 :=
  (BitVec.ofNat 32 (block.getD (4 * i) 0).toNat) <<< 24 ||| (BitVec.ofNat 32 (block.getD (4 * i + 1) 0).toNat) <<< 16 |||
    (BitVec.ofNat 32 (block.getD (4 * i + 2) 0).toNat) <<< 8 ||| BitVec.ofNat 32 (block.getD (4 * i + 3) 0).toNat

theorem word_def (block : List UInt8) (i : Nat) : word block i = (BitVec.ofNat 32 (block.getD (4 * i) 0).toNat) <<< 24 ||| (BitVec.ofNat 32 (block.getD (4 * i + 1) 0).toNat) <<< 16 |||
    (BitVec.ofNat 32 (block.getD (4 * i + 2) 0).toNat) <<< 8 ||| BitVec.ofNat 32 (block.getD (4 * i + 3) 0).toNat := rfl

/-- The first n words of the schedule. -/
def sched (block : List UInt8) : Nat → List (BitVec 32)
  | 0 => []
  | n + 1 =>
    let ws := sched block n
    ws ++ [if n < 16 then word block n else ws.getD (n - 16) 0 + sig0 (ws.getD (n - 15) 0) + ws.getD (n - 7) 0 + sig1 (ws.getD (n - 2) 0)]

theorem sched_length (block : List UInt8) (n : Nat) : (sched block n).length = n := by
  induction n with
  | zero => rfl
  | succ n ih => simp [sched, ih]

theorem sched_next (block : List UInt8) (n : Nat) (h : 16 ≤ n) : sched block (n + 1) = sched block n ++
    [(sched block n).getD (n - 16) 0 + sig0 ((sched block n).getD (n - 15) 0) + (sched block n).getD (n - 7) 0 + sig1 ((sched block n).getD (n - 2) 0)] := by
  have e : ¬ n < 16 := by omega
  simp [sched, e]

/-- n rounds. -/
def rounds (ws : List (BitVec 32)) : Nat → S8 → S8
  | 0, s => s
  | n + 1, s => (rounds ws n s).round (ks.getD n 0) (ws.getD n 0)

theorem round_is {a b c d e f g h k w m d' h' : BitVec 32} (hm : h + (sum1 e + ch e f g + k + w) = m) (hd : d + m = d') (hh : m + (sum0 a + maj a b c) = h') :
    S8.round ⟨a, b, c, d, e, f, g, h⟩ k w = ⟨h', a, b, c, d', e, f, g⟩ := by
  have e1 : S8.mixed ⟨a, b, c, d, e, f, g, h⟩ k w = m := by
    rw [← hm]
    simp only [S8.mixed]
    ac_rfl
  simp only [S8.round, e1, hd, hh]

theorem rounds_next (ws : List (BitVec 32)) (n : Nat) (s : S8) : rounds ws (n + 1) s = (rounds ws n s).round (ks.getD n 0) (ws.getD n 0) := rfl

def compress (s : S8) (block : List UInt8) : S8 := s.add (rounds (sched block 64) 64 s)

/-- The whole blocks of a text, worked in: n of them. -/
def blocks (l : List UInt8) : Nat → S8
  | 0 => S8.first
  | n + 1 => compress (blocks l n) ((l.drop (64 * n)).take 64)

def be (size : Nat) (x : Nat) : List UInt8 := (List.range size).map fun i => UInt8.ofNat (x / 256 ^ (size - 1 - i))

def pad (l : List UInt8) : List UInt8 := l ++ [0x80] ++ List.replicate ((120 - (l.length + 1) % 64) % 64) 0 ++ be 8 (8 * l.length)

def bytes (x : BitVec 32) : List UInt8 := be 4 x.toNat
def S8.bytes (s : S8) : List UInt8 :=
  Sha.bytes s.a ++ Sha.bytes s.b ++ Sha.bytes s.c ++ Sha.bytes s.d ++ Sha.bytes s.e ++ Sha.bytes s.f ++ Sha.bytes s.g ++ Sha.bytes s.h

def sha (l : List UInt8) : List UInt8 := (blocks (pad l) ((pad l).length / 64)).bytes

theorem sha_abc : (sha [97, 98, 99]).map UInt8.toNat = [0xba, 0x78, 0x16, 0xbf, 0x8f, 0x01, 0xcf, 0xea, 0x41, 0x41, 0x40, 0xde, 0x5d, 0xae, 0x22, 0x23, 0xb0, 0x03, 0x61, 0xa3, 0x96, 0x17, 0x7a, 0x9c, 0xb4, 0x10, 0xff, 0x61, 0xf2, 0x00, 0x15, 0xad] := by
  decide +kernel

end Go.Proofs.YtmgaegaibglnhaaGreat.Sha
