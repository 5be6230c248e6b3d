/- SHA-256 on natural numbers: as the kernel reckons it, some 6 ms a block (sha_num). No function of the program is named here.
   One-time signatures on natural numbers, as the kernel reckons them. No function of the program is named here.
   Trees of one-time keys (RFC 8554) as plain functions; what the statements' first key signs is not what it didn't sign. No function of the program is named here.
   The order in which the nodes of a tree are made, and which of them wait. No function of the program is named here.
   What a public key, a signature, a check of one say (RFC 8554), as plain functions. No function of the program is named here. -/
import Derived.Test.YtmfajekfipfjpaaGreatShaText
import Derived.Test.YtmfajekfipfjpaaGreatOtsPr
namespace Go.Proofs.YtmfajekfipfjpaaGreat.Sha

/-! SHA-256 on natural numbers, as the kernel reckons it. -/

theorem rot_nat (x : BitVec 32) (n : Nat) (h1 : 0 < n) (h2 : n < 32) : (rot x n).toNat = (x.toNat * 4294967297) >>> n % 4294967296 := by
  have e : x.toNat * 4294967297 = x.toNat <<< 32 ||| x.toNat := by
    rw [← Nat.shiftLeft_add_eq_or_of_lt x.isLt, Nat.shiftLeft_eq]
    omega
  have e2 : (4294967296 : Nat) = 2 ^ 32 := rfl
  rw [e, e2]
  apply Nat.eq_of_testBit_eq
  intro i
  have hx : ∀ j, 32 ≤ j → x.toNat.testBit j = false := fun j hj => Nat.testBit_lt_two_pow (Nat.lt_of_lt_of_le x.isLt (Nat.pow_le_pow_right (by decide) hj))
  simp only [rot, BitVec.toNat_or, BitVec.toNat_ushiftRight, BitVec.toNat_shiftLeft, Nat.testBit_or, Nat.testBit_mod_two_pow, Nat.testBit_shiftRight, Nat.testBit_shiftLeft]
  by_cases hi : i < 32
  · by_cases hn : 32 ≤ n + i
    · have e3 : i - (32 - n) = n + i - 32 := by omega
      have e4 : 32 - n ≤ i := by omega
      simp [hi, hn, e3, e4, hx (n + i) hn]
    · have e4 : ¬ 32 - n ≤ i := by omega
      simp [hi, hn, e4]
  · simp [hi, hx (n + i) (by omega)]

theorem xor3_mod (a b c : Nat) : (a ^^^ b ^^^ c) % 4294967296 = (a % 4294967296) ^^^ (b % 4294967296) ^^^ (c % 4294967296) := by
  have e2 : (4294967296 : Nat) = 2 ^ 32 := rfl
  rw [e2, Nat.xor_mod_two_pow, Nat.xor_mod_two_pow]

theorem sum0_nat (x : BitVec 32) : (sum0 x).toNat = ((x.toNat * 4294967297) >>> 2 ^^^ (x.toNat * 4294967297) >>> 13 ^^^ (x.toNat * 4294967297) >>> 22) % 4294967296 := by
  rw [xor3_mod, sum0, BitVec.toNat_xor, BitVec.toNat_xor, rot_nat _ _ (by decide) (by decide), rot_nat _ _ (by decide) (by decide), rot_nat _ _ (by decide) (by decide)]
theorem sum1_nat (x : BitVec 32) : (sum1 x).toNat = ((x.toNat * 4294967297) >>> 6 ^^^ (x.toNat * 4294967297) >>> 11 ^^^ (x.toNat * 4294967297) >>> 25) % 4294967296 := by
  rw [xor3_mod, sum1, BitVec.toNat_xor, BitVec.toNat_xor, rot_nat _ _ (by decide) (by decide), rot_nat _ _ (by decide) (by decide), rot_nat _ _ (by decide) (by decide)]
theorem shr_mod (x : BitVec 32) (n : Nat) : x.toNat >>> n % 4294967296 = x.toNat >>> n := Nat.mod_eq_of_lt (Nat.lt_of_le_of_lt (by rw [Nat.shiftRight_eq_div_pow]; exact Nat.div_le_self _ _) x.isLt)
theorem sig0_nat (x : BitVec 32) : (sig0 x).toNat = ((x.toNat * 4294967297) >>> 7 ^^^ (x.toNat * 4294967297) >>> 18 ^^^ x.toNat >>> 3) % 4294967296 := by
  rw [xor3_mod, sig0, BitVec.toNat_xor, BitVec.toNat_xor, rot_nat _ _ (by decide) (by decide), rot_nat _ _ (by decide) (by decide), BitVec.toNat_ushiftRight, shr_mod]
theorem sig1_nat (x : BitVec 32) : (sig1 x).toNat = ((x.toNat * 4294967297) >>> 17 ^^^ (x.toNat * 4294967297) >>> 19 ^^^ x.toNat >>> 10) % 4294967296 := by
  rw [xor3_mod, sig1, BitVec.toNat_xor, BitVec.toNat_xor, rot_nat _ _ (by decide) (by decide), rot_nat _ _ (by decide) (by decide), BitVec.toNat_ushiftRight, shr_mod]
theorem ch_nat (e f g : BitVec 32) : (ch e f g).toNat = g.toNat ^^^ (e.toNat &&& (f.toNat ^^^ g.toNat)) := by
  rw [← ch_alt, BitVec.toNat_xor, BitVec.toNat_and, BitVec.toNat_xor]
theorem maj_nat (a b c : BitVec 32) : (maj a b c).toNat = (a.toNat &&& b.toNat) ||| (c.toNat &&& (a.toNat ||| b.toNat)) := by
  rw [← maj_alt, BitVec.toNat_or, BitVec.toNat_and, BitVec.toNat_and, BitVec.toNat_or]

def ksN : List Nat := [
  0x428a2f98, 0x71374491, 0xb5c0fbcf, 0xe9b5dba5, 0x3956c25b, 0x59f111f1, 0x923f82a4, 0xab1c5ed5,
  0xd807aa98, 0x12835b01, 0x243185be, 0x550c7dc3, 0x72be5d74, 0x80deb1fe, 0x9bdc06a7, 0xc19bf174,
  0xe49b69c1, 0xefbe4786, 0x0fc19dc6, 0x240ca1cc, 0x2de92c6f, 0x4a7484aa, 0x5cb0a9dc, 0x76f988da,
  0x983e5152, 0xa831c66d, 0xb00327c8, 0xbf597fc7, 0xc6e00bf3, 0xd5a79147, 0x06ca6351, 0x14292967,
  0x27b70a85, 0x2e1b2138, 0x4d2c6dfc, 0x53380d13, 0x650a7354, 0x766a0abb, 0x81c2c92e, 0x92722c85,
  0xa2bfe8a1, 0xa81a664b, 0xc24b8b70, 0xc76c51a3, 0xd192e819, 0xd6990624, 0xf40e3585, 0x106aa070,
  0x19a4c116, 0x1e376c08, 0x2748774c, 0x34b0bcb5, 0x391c0cb3, 0x4ed8aa4a, 0x5b9cca4f, 0x682e6ff3,
  0x748f82ee, 0x78a5636f, 0x84c87814, 0x8cc70208, 0x90befffa, 0xa4506ceb, 0xbef9a3f7, 0xc67178f2]
theorem ksN_eq : ksN = ks.map BitVec.toNat := by decide +kernel

/-- What a round adds, and the schedule's next word, the sums not cut. -/
def t1N (k w e f g h : Nat) : Nat :=
  (fun ye => Nat.add (Nat.add (Nat.add (Nat.add h k) w) (Nat.xor g (Nat.land e (Nat.xor f g)))) (Nat.xor (Nat.xor (Nat.shiftRight ye 6) (Nat.shiftRight ye 11)) (Nat.shiftRight ye 25))) (Nat.mul e 4294967297)
def aN (t1 a b c : Nat) : Nat :=
  (fun ya => Nat.mod (Nat.add t1 (Nat.add (Nat.xor (Nat.xor (Nat.shiftRight ya 2) (Nat.shiftRight ya 13)) (Nat.shiftRight ya 22)) (Nat.lor (Nat.land a b) (Nat.land c (Nat.lor a b))))) 4294967296) (Nat.mul a 4294967297)
def wN (w0 w1 w9 w14 : Nat) : Nat :=
  (fun y1 y14 => Nat.mod (Nat.add (Nat.add (Nat.add w0 w9) (Nat.xor (Nat.xor (Nat.shiftRight y1 7) (Nat.shiftRight y1 18)) (Nat.shiftRight w1 3))) (Nat.xor (Nat.xor (Nat.shiftRight y14 17) (Nat.shiftRight y14 19)) (Nat.shiftRight w14 10))) 4294967296) (Nat.mul w1 4294967297) (Nat.mul w14 4294967297)

theorem t1_nat (s : S8) (k w : BitVec 32) : (s.mixed k w).toNat = t1N k.toNat w.toNat s.e.toNat s.f.toNat s.g.toNat s.h.toNat % 4294967296 := by
  have e : t1N k.toNat w.toNat s.e.toNat s.f.toNat s.g.toNat s.h.toNat = s.h.toNat + k.toNat + w.toNat + (s.g.toNat ^^^ (s.e.toNat &&& (s.f.toNat ^^^ s.g.toNat))) + ((s.e.toNat * 4294967297) >>> 6 ^^^ (s.e.toNat * 4294967297) >>> 11 ^^^ (s.e.toNat * 4294967297) >>> 25) := rfl
  rw [e]
  unfold S8.mixed
  simp only [BitVec.toNat_add, sum1_nat, ch_nat]
  omega
theorem a_nat (t1 : Nat) (m a b c : BitVec 32) (hm : m.toNat = t1 % 4294967296) : (m + (sum0 a + maj a b c)).toNat = aN t1 a.toNat b.toNat c.toNat := by
  have e : aN t1 a.toNat b.toNat c.toNat = (t1 + (((a.toNat * 4294967297) >>> 2 ^^^ (a.toNat * 4294967297) >>> 13 ^^^ (a.toNat * 4294967297) >>> 22) + ((a.toNat &&& b.toNat) ||| (c.toNat &&& (a.toNat ||| b.toNat))))) % 4294967296 := rfl
  rw [e]
  simp only [BitVec.toNat_add, sum0_nat, maj_nat, hm]
  omega
theorem w_nat (w0 w1 w9 w14 : BitVec 32) : (w0 + sig0 w1 + w9 + sig1 w14).toNat = wN w0.toNat w1.toNat w9.toNat w14.toNat := by
  have e : wN w0.toNat w1.toNat w9.toNat w14.toNat = (w0.toNat + w9.toNat + ((w1.toNat * 4294967297) >>> 7 ^^^ (w1.toNat * 4294967297) >>> 18 ^^^ w1.toNat >>> 3) + ((w14.toNat * 4294967297) >>> 17 ^^^ (w14.toNat * 4294967297) >>> 19 ^^^ w14.toNat >>> 10)) % 4294967296 := rfl
  rw [e]
  simp only [BitVec.toNat_add, sig0_nat, sig1_nat]
  omega

theorem getD_left {α : Type} (l m : List α) (n : Nat) (d : α) (h : n < l.length) : (l ++ m).getD n d = l.getD n d := by
  rw [List.getD_eq_getElem?_getD, List.getD_eq_getElem?_getD, List.getElem?_append_left h]
theorem getD_end {α : Type} (l : List α) (x : α) (n : Nat) (d : α) (h : n = l.length) : (l ++ [x]).getD n d = x := by
  subst h
  rw [List.getD_eq_getElem?_getD, List.getElem?_append_right (Nat.le_refl _), Nat.sub_self]
  rfl

theorem sched_pre (block : List UInt8) (t : Nat) : ∀ n m : Nat, t < n → n ≤ m → (sched block m).getD t 0 = (sched block n).getD t 0 := by
  intro n m h1 h2
  induction m with
  | zero => omega
  | succ m ih =>
    by_cases h : n = m + 1
    · rw [h]
    · rw [← ih (by omega)]
      show (sched block m ++ [_]).getD t 0 = _
      rw [getD_left _ _ _ _ (by rw [sched_length]; omega)]

theorem sched_low (block : List UInt8) (t : Nat) (h : t < 16) : (sched block 64).getD t 0 = word block t := by
  rw [sched_pre block t (t + 1) 64 (by omega) (by omega)]
  show (sched block t ++ [_]).getD t 0 = _
  rw [getD_end _ _ _ _ (by rw [sched_length]), if_pos h]

theorem sched_high (block : List UInt8) (t : Nat) (h : t + 16 < 64) : (sched block 64).getD (t + 16) 0 =
    (sched block 64).getD t 0 + sig0 ((sched block 64).getD (t + 1) 0) + (sched block 64).getD (t + 9) 0 + sig1 ((sched block 64).getD (t + 14) 0) := by
  rw [sched_pre block (t + 16) (t + 17) 64 (by omega) (by omega)]
  rw [sched_next block (t + 16) (by omega), getD_end _ _ _ _ (by rw [sched_length])]
  have e1 : t + 16 - 16 = t := by omega
  have e2 : t + 16 - 15 = t + 1 := by omega
  have e3 : t + 16 - 7 = t + 9 := by omega
  have e4 : t + 16 - 2 = t + 14 := by omega
  rw [e1, e2, e3, e4, ← sched_pre block t (t + 16) 64 (by omega) (by omega), ← sched_pre block (t + 1) (t + 16) 64 (by omega) (by omega), ← sched_pre block (t + 9) (t + 16) 64 (by omega) (by omega), ← sched_pre block (t + 14) (t + 16) 64 (by omega) (by omega)]

noncomputable def roundsN (l : List Nat) : Nat → Nat → Nat → Nat → Nat → Nat → Nat → Nat → Nat → Nat → Nat → Nat → Nat → Nat → Nat → Nat →
   Nat → Nat → Nat → Nat → Nat → Nat → Nat → Nat → (Nat → Nat → Nat → Nat → Nat → Nat → Nat → Nat → Nat) → Nat :=
  List.rec (motive := fun _ => Nat → Nat → Nat → Nat → Nat → Nat → Nat → Nat → Nat → Nat → Nat → Nat → Nat → Nat → Nat → Nat →
   Nat → Nat → Nat → Nat → Nat → Nat → Nat → Nat → (Nat → Nat → Nat → Nat → Nat → Nat → Nat → Nat → Nat) → Nat)
   (fun _ _ _ _ _ _ _ _ _ _ _ _ _ _ _ _ a b c d e f g h K => K a b c d e f g h)
   (fun k _ ih w0 w1 w2 w3 w4 w5 w6 w7 w8 w9 w10 w11 w12 w13 w14 w15 a b c d e f g h K =>
     (fun t1 => ih w1 w2 w3 w4 w5 w6 w7 w8 w9 w10 w11 w12 w13 w14 w15 (wN w0 w1 w9 w14) (aN t1 a b c) a b c (Nat.mod (Nat.add d t1) 4294967296) e f g K) (t1N k w0 e f g h))
   l

theorem roundsN_cons (k : Nat) (l : List Nat) (w0 w1 w2 w3 w4 w5 w6 w7 w8 w9 w10 w11 w12 w13 w14 w15 a b c d e f g h : Nat) (K : Nat → Nat → Nat → Nat → Nat → Nat → Nat → Nat → Nat) :
    roundsN (k :: l) w0 w1 w2 w3 w4 w5 w6 w7 w8 w9 w10 w11 w12 w13 w14 w15 a b c d e f g h K =
    roundsN l w1 w2 w3 w4 w5 w6 w7 w8 w9 w10 w11 w12 w13 w14 w15 (wN w0 w1 w9 w14) (aN (t1N k w0 e f g h) a b c) a b c (Nat.mod (Nat.add d (t1N k w0 e f g h)) 4294967296) e f g K := rfl
theorem roundsN_nil (w0 w1 w2 w3 w4 w5 w6 w7 w8 w9 w10 w11 w12 w13 w14 w15 a b c d e f g h : Nat) (K : Nat → Nat → Nat → Nat → Nat → Nat → Nat → Nat → Nat) :
    roundsN [] w0 w1 w2 w3 w4 w5 w6 w7 w8 w9 w10 w11 w12 w13 w14 w15 a b c d e f g h K = K a b c d e f g h := rfl

theorem ks_at (n : Nat) (h : n < 64) : ksN.drop n = (ks.getD n 0).toNat :: ksN.drop (n + 1) := by
  have hl2 : n < ks.length := h
  rw [ksN_eq, ← List.map_drop, ← List.map_drop, List.drop_eq_getElem_cons hl2, List.map_cons, List.getD_eq_getElem?_getD, List.getElem?_eq_getElem hl2]
  rfl

theorem rounds_nat (ws : List (BitVec 32)) (hws : ∀ t, t + 16 < 64 → ws.getD (t + 16) 0 = ws.getD t 0 + sig0 (ws.getD (t + 1) 0) + ws.getD (t + 9) 0 + sig1 (ws.getD (t + 14) 0)) (s0 F : S8) (K : Nat → Nat → Nat → Nat → Nat → Nat → Nat → Nat → Nat) :
    ∀ (m n : Nat) (s : S8) (v0 v1 v2 v3 v4 v5 v6 v7 v8 v9 v10 v11 v12 v13 v14 v15 : Nat), n + m = 64 → s = rounds ws n s0 → F = rounds ws (n + m) s0 →
    (∀ i v, [v0, v1, v2, v3, v4, v5, v6, v7, v8, v9, v10, v11, v12, v13, v14, v15][i]? = some v → n + i < 64 → v = (ws.getD (n + i) 0).toNat) →
    roundsN (ksN.drop n) v0 v1 v2 v3 v4 v5 v6 v7 v8 v9 v10 v11 v12 v13 v14 v15 s.a.toNat s.b.toNat s.c.toNat s.d.toNat s.e.toNat s.f.toNat s.g.toNat s.h.toNat K =
    K F.a.toNat F.b.toNat F.c.toNat F.d.toNat F.e.toNat F.f.toNat F.g.toNat F.h.toNat := by
  intro m
  induction m with
  | zero =>
    intro n s v0 v1 v2 v3 v4 v5 v6 v7 v8 v9 v10 v11 v12 v13 v14 v15 hn hs hF hv
    rw [Nat.add_zero, ← hs] at hF
    have hd : ksN.drop n = [] := List.drop_eq_nil_of_le (by show 64 ≤ n; omega)
    rw [hd, roundsN_nil, hF]
  | succ m ih =>
    intro n s v0 v1 v2 v3 v4 v5 v6 v7 v8 v9 v10 v11 v12 v13 v14 v15 hn hs hF hv
    have h0 := hv 0 v0 rfl (by omega)
    rw [Nat.add_zero] at h0
    rw [ks_at n (by omega), roundsN_cons]
    have hm := t1_nat s (ks.getD n 0) (ws.getD n 0)
    rw [← h0] at hm
    have e1 := a_nat (t1N (ks.getD n 0).toNat v0 s.e.toNat s.f.toNat s.g.toNat s.h.toNat) (s.mixed (ks.getD n 0) (ws.getD n 0)) s.a s.b s.c hm
    have e2 : (s.d + s.mixed (ks.getD n 0) (ws.getD n 0)).toNat = Nat.mod (Nat.add s.d.toNat (t1N (ks.getD n 0).toNat v0 s.e.toNat s.f.toNat s.g.toNat s.h.toNat)) 4294967296 := by
      rw [BitVec.toNat_add, hm]
      show _ = (s.d.toNat + _) % 4294967296
      omega
    rw [← e1, ← e2]
    refine ih (n + 1) (s.round (ks.getD n 0) (ws.getD n 0)) v1 v2 v3 v4 v5 v6 v7 v8 v9 v10 v11 v12 v13 v14 v15 (wN v0 v1 v9 v14) (by omega) (by rw [hs, ← rounds_next]) (by rw [hF]; congr 1; omega) ?_
    intro i v hi hlt
    by_cases h15 : i = 15
    · subst h15
      have hv' : wN v0 v1 v9 v14 = v := Option.some.inj hi
      rw [← hv', hv 0 v0 rfl (by omega), hv 1 v1 rfl (by omega), hv 9 v9 rfl (by omega), hv 14 v14 rfl (by omega), ← w_nat, show n + 1 + 15 = n + 16 by omega, hws n (by omega)]
      rfl
    · have h16 : i < 15 := by
        have h1 := (List.getElem?_eq_some_iff.1 hi).1
        have h2 : i < 16 := h1
        omega
      have e : [v0, v1, v2, v3, v4, v5, v6, v7, v8, v9, v10, v11, v12, v13, v14, v15][i + 1]? = some v := by
        rw [← hi]
        show [v1, v2, v3, v4, v5, v6, v7, v8, v9, v10, v11, v12, v13, v14, v15][i]? = ([v1, v2, v3, v4, v5, v6, v7, v8, v9, v10, v11, v12, v13, v14, v15] ++ [wN v0 v1 v9 v14])[i]?
        rw [List.getElem?_append_left h16]
      have := hv (i + 1) v e (by omega)
      rw [this, show n + 1 + i = n + (i + 1) by omega]

/-- The number whose bytes these are, the highest first. -/
def bn (l : List UInt8) : Nat := l.foldl (fun a b => a * 256 + b.toNat) 0

theorem bn_acc : ∀ (l : List UInt8) (a : Nat), l.foldl (fun a b => a * 256 + b.toNat) a = a * 256 ^ l.length + bn l
  | [], a => by simp [bn]
  | x :: l, a => by
    have h1 := bn_acc l (a * 256 + x.toNat)
    have h2 := bn_acc l (0 * 256 + x.toNat)
    unfold bn
    simp only [List.foldl_cons, List.length_cons, Nat.pow_succ]
    rw [h1, h2]
    simp only [Nat.zero_mul, Nat.zero_add, Nat.add_mul, Nat.mul_assoc, Nat.mul_comm 256]
    omega
theorem bn_append (l m : List UInt8) : bn (l ++ m) = bn l * 256 ^ m.length + bn m := by
  unfold bn
  rw [List.foldl_append, bn_acc m]
  rfl
theorem bn_cons (x : UInt8) (l : List UInt8) : bn (x :: l) = x.toNat * 256 ^ l.length + bn l := by
  have h := bn_append [x] l
  simpa [bn] using h
theorem bn_lt : ∀ l : List UInt8, bn l < 256 ^ l.length
  | [] => by simp [bn]
  | x :: l => by
    have h := bn_lt l
    have hx : x.toNat < 256 := x.toNat_lt
    rw [bn_cons, List.length_cons, Nat.pow_succ, Nat.mul_comm (256 ^ l.length)]
    have : x.toNat * 256 ^ l.length ≤ 255 * 256 ^ l.length := Nat.mul_le_mul_right _ (by omega)
    omega

theorem bn_cut (l : List UInt8) (k m : Nat) (h : k + m ≤ l.length) : bn ((l.drop k).take m) = bn l / 256 ^ (l.length - k - m) % 256 ^ m := by
  have e : l = l.take k ++ ((l.drop k).take m ++ l.drop (k + m)) := by
    rw [← List.drop_drop, List.take_append_drop, List.take_append_drop]
  have hB : ((l.drop k).take m).length = m := by rw [List.length_take, List.length_drop]; omega
  have hC : (l.drop (k + m)).length = l.length - k - m := by rw [List.length_drop]; omega
  have hn : bn l = (bn (l.take k) * 256 ^ m + bn ((l.drop k).take m)) * 256 ^ (l.length - k - m) + bn (l.drop (k + m)) := by
    conv => lhs; rw [e]
    rw [bn_append, bn_append, List.length_append, hB, hC, Nat.pow_add]
    rw [Nat.add_mul, Nat.mul_assoc]
    omega
  have l1 := bn_lt (l.drop (k + m))
  have l2 := bn_lt ((l.drop k).take m)
  rw [hC] at l1
  rw [hB] at l2
  rw [hn]
  generalize 256 ^ (l.length - k - m) = p at *
  have hp : 0 < p := by omega
  rw [Nat.mul_comm _ p, Nat.mul_add_div hp, Nat.div_eq_of_lt l1, Nat.add_zero, Nat.mul_comm _ (256 ^ m), Nat.mul_add_mod, Nat.mod_eq_of_lt l2]

theorem four (l : List UInt8) (k : Nat) (h : k + 4 ≤ l.length) : (l.drop k).take 4 = [l.getD k 0, l.getD (k + 1) 0, l.getD (k + 2) 0, l.getD (k + 3) 0] := by
  rw [List.drop_eq_getElem_cons (by omega), List.drop_eq_getElem_cons (by omega), List.drop_eq_getElem_cons (by omega), List.drop_eq_getElem_cons (by omega)]
  simp only [List.take_succ_cons, List.take_zero, List.getD_eq_getElem?_getD]
  rw [List.getElem?_eq_getElem (by omega), List.getElem?_eq_getElem (by omega), List.getElem?_eq_getElem (by omega), List.getElem?_eq_getElem (by omega)]
  rfl

theorem word_nat (l : List UInt8) (i : Nat) (h : 4 * i + 4 ≤ l.length) : (word l i).toNat = bn ((l.drop (4 * i)).take 4) := by
  rw [four l _ h, word_def]
  generalize l.getD (4 * i) 0 = a
  generalize l.getD (4 * i + 1) 0 = b
  generalize l.getD (4 * i + 2) 0 = c
  generalize l.getD (4 * i + 3) 0 = d
  have ha : a.toNat < 256 := a.toNat_lt
  have hb : b.toNat < 256 := b.toNat_lt
  have hc : c.toNat < 256 := c.toNat_lt
  have hd : d.toNat < 256 := d.toNat_lt
  have e : bn [a, b, c, d] = ((a.toNat * 256 + b.toNat) * 256 + c.toNat) * 256 + d.toNat := by simp [bn]
  rw [e]
  simp only [BitVec.toNat_or, BitVec.toNat_shiftLeft, BitVec.toNat_ofNat]
  have m1 : a.toNat % 2 ^ 32 = a.toNat := Nat.mod_eq_of_lt (by omega)
  have m2 : b.toNat % 2 ^ 32 = b.toNat := Nat.mod_eq_of_lt (by omega)
  have m3 : c.toNat % 2 ^ 32 = c.toNat := Nat.mod_eq_of_lt (by omega)
  have m4 : d.toNat % 2 ^ 32 = d.toNat := Nat.mod_eq_of_lt (by omega)
  rw [m1, m2, m3, m4]
  have s1 : a.toNat <<< 24 % 2 ^ 32 = a.toNat <<< 24 := Nat.mod_eq_of_lt (by rw [Nat.shiftLeft_eq]; omega)
  have s2 : b.toNat <<< 16 % 2 ^ 32 = b.toNat <<< 16 := Nat.mod_eq_of_lt (by rw [Nat.shiftLeft_eq]; omega)
  have s3 : c.toNat <<< 8 % 2 ^ 32 = c.toNat <<< 8 := Nat.mod_eq_of_lt (by rw [Nat.shiftLeft_eq]; omega)
  rw [s1, s2, s3]
  have p1 : a.toNat <<< 24 ||| b.toNat <<< 16 = (a.toNat * 256 + b.toNat) <<< 16 := by
    rw [← Nat.shiftLeft_add_eq_or_of_lt (show b.toNat <<< 16 < 2 ^ 24 by rw [Nat.shiftLeft_eq]; omega)]
    simp only [Nat.shiftLeft_eq]
    omega
  have p2 : (a.toNat * 256 + b.toNat) <<< 16 ||| c.toNat <<< 8 = ((a.toNat * 256 + b.toNat) * 256 + c.toNat) <<< 8 := by
    rw [← Nat.shiftLeft_add_eq_or_of_lt (show c.toNat <<< 8 < 2 ^ 16 by rw [Nat.shiftLeft_eq]; omega)]
    simp only [Nat.shiftLeft_eq]
    omega
  have p3 : ((a.toNat * 256 + b.toNat) * 256 + c.toNat) <<< 8 ||| d.toNat = ((a.toNat * 256 + b.toNat) * 256 + c.toNat) * 256 + d.toNat := by
    rw [← Nat.shiftLeft_add_eq_or_of_lt (show d.toNat < 2 ^ 8 by omega)]
    simp only [Nat.shiftLeft_eq]
    try omega
  rw [p1, p2, p3]

def wd (m s : Nat) : Nat := Nat.mod (Nat.shiftRight m s) 4294967296
theorem wd_eq (m s : Nat) : wd m s = m / 2 ^ s % 4294967296 := by
  show (m >>> s) % 4294967296 = _
  rw [Nat.shiftRight_eq_div_pow]

theorem wd_word (l : List UInt8) (hl : l.length = 64) (i s : Nat) (hi : i < 16) (hs : s = 480 - 32 * i) : wd (bn l) s = (word l i).toNat := by
  rw [word_nat l i (by omega), bn_cut l (4 * i) 4 (by omega), wd_eq, hl]
  have e : (256 : Nat) ^ (64 - 4 * i - 4) = 2 ^ s := by
    rw [show (256 : Nat) = 2 ^ 8 from rfl, ← Nat.pow_mul]
    congr 1
    omega
  rw [e]

def catN (a b c d e f g h : Nat) : Nat :=
  Nat.add (Nat.shiftLeft a 224) (Nat.add (Nat.shiftLeft b 192) (Nat.add (Nat.shiftLeft c 160) (Nat.add (Nat.shiftLeft d 128) (Nat.add (Nat.shiftLeft e 96) (Nat.add (Nat.shiftLeft f 64) (Nat.add (Nat.shiftLeft g 32) h))))))
theorem catN_eq (a b c d e f g h : Nat) : catN a b c d e f g h = a * 2 ^ 224 + (b * 2 ^ 192 + (c * 2 ^ 160 + (d * 2 ^ 128 + (e * 2 ^ 96 + (f * 2 ^ 64 + (g * 2 ^ 32 + h)))))) := by
  show a <<< 224 + (b <<< 192 + (c <<< 160 + (d <<< 128 + (e <<< 96 + (f <<< 64 + (g <<< 32 + h)))))) = _
  simp only [Nat.shiftLeft_eq]

def S8.bn (s : S8) : Nat := catN s.a.toNat s.b.toNat s.c.toNat s.d.toNat s.e.toNat s.f.toNat s.g.toNat s.h.toNat

theorem wd_num (s : S8) : wd s.bn 224 = s.a.toNat ∧ wd s.bn 192 = s.b.toNat ∧ wd s.bn 160 = s.c.toNat ∧ wd s.bn 128 = s.d.toNat ∧ wd s.bn 96 = s.e.toNat ∧ wd s.bn 64 = s.f.toNat ∧ wd s.bn 32 = s.g.toNat ∧ wd s.bn 0 = s.h.toNat := by
  have ha := s.a.isLt
  have hb := s.b.isLt
  have hc := s.c.isLt
  have hd := s.d.isLt
  have he := s.e.isLt
  have hf := s.f.isLt
  have hg := s.g.isLt
  have hh := s.h.isLt
  simp only [S8.bn, catN_eq, wd_eq]
  refine ⟨?_, ?_, ?_, ?_, ?_, ?_, ?_, ?_⟩ <;> omega

noncomputable def compressN (st m : Nat) : Nat :=
  roundsN ksN (wd m 480) (wd m 448) (wd m 416) (wd m 384) (wd m 352) (wd m 320) (wd m 288) (wd m 256) (wd m 224) (wd m 192) (wd m 160) (wd m 128) (wd m 96) (wd m 64) (wd m 32) (wd m 0)
    (wd st 224) (wd st 192) (wd st 160) (wd st 128) (wd st 96) (wd st 64) (wd st 32) (wd st 0)
    (fun a b c d e f g h => catN (Nat.mod (Nat.add a (wd st 224)) 4294967296) (Nat.mod (Nat.add b (wd st 192)) 4294967296) (Nat.mod (Nat.add c (wd st 160)) 4294967296) (Nat.mod (Nat.add d (wd st 128)) 4294967296)
      (Nat.mod (Nat.add e (wd st 96)) 4294967296) (Nat.mod (Nat.add f (wd st 64)) 4294967296) (Nat.mod (Nat.add g (wd st 32)) 4294967296) (Nat.mod (Nat.add h (wd st 0)) 4294967296))

theorem add_mod_nat (x y : BitVec 32) : Nat.mod (Nat.add y.toNat x.toNat) 4294967296 = (x + y).toNat := by
  rw [BitVec.toNat_add, Nat.add_comm]
  rfl

theorem compress_nat (s : S8) (l : List UInt8) (hl : l.length = 64) : (compress s l).bn = compressN s.bn (bn l) := by
  obtain ⟨n1, n2, n3, n4, n5, n6, n7, n8⟩ := wd_num s
  unfold compressN
  rw [n1, n2, n3, n4, n5, n6, n7, n8]
  obtain ⟨F, hF⟩ : ∃ F, F = rounds (sched l 64) 64 s := ⟨_, rfl⟩
  have h := rounds_nat (sched l 64) (sched_high l) s F (fun a b c d e f g h => catN (Nat.mod (Nat.add a s.a.toNat) 4294967296) (Nat.mod (Nat.add b s.b.toNat) 4294967296) (Nat.mod (Nat.add c s.c.toNat) 4294967296) (Nat.mod (Nat.add d s.d.toNat) 4294967296)
      (Nat.mod (Nat.add e s.e.toNat) 4294967296) (Nat.mod (Nat.add f s.f.toNat) 4294967296) (Nat.mod (Nat.add g s.g.toNat) 4294967296) (Nat.mod (Nat.add h s.h.toNat) 4294967296)) 64 0 s
    (wd (bn l) 480) (wd (bn l) 448) (wd (bn l) 416) (wd (bn l) 384) (wd (bn l) 352) (wd (bn l) 320) (wd (bn l) 288) (wd (bn l) 256) (wd (bn l) 224) (wd (bn l) 192) (wd (bn l) 160) (wd (bn l) 128) (wd (bn l) 96) (wd (bn l) 64) (wd (bn l) 32) (wd (bn l) 0)
    rfl rfl (by rw [Nat.zero_add]; exact hF) (by
      intro i v hi hlt
      have hi16 : i < 16 := (List.getElem?_eq_some_iff.1 hi).1
      rw [Nat.zero_add, sched_low l i hi16, ← wd_word l hl i (480 - 32 * i) hi16 rfl]
      have hc : i = 0 ∨ i = 1 ∨ i = 2 ∨ i = 3 ∨ i = 4 ∨ i = 5 ∨ i = 6 ∨ i = 7 ∨ i = 8 ∨ i = 9 ∨ i = 10 ∨ i = 11 ∨ i = 12 ∨ i = 13 ∨ i = 14 ∨ i = 15 := by omega
      rcases hc with rfl | rfl | rfl | rfl | rfl | rfl | rfl | rfl | rfl | rfl | rfl | rfl | rfl | rfl | rfl | rfl <;> exact (Option.some.inj hi).symm)
  rw [List.drop_zero] at h
  rw [h]
  simp only [add_mod_nat]
  rw [hF]
  rfl

def iv : Nat := 0x6a09e667bb67ae853c6ef372a54ff53a510e527f9b05688c1f83d9ab5be0cd19
noncomputable def blocksN (M n k : Nat) : Nat :=
  Nat.rec iv (fun k ih => compressN ih (Nat.mod (Nat.shiftRight M (Nat.mul 512 (Nat.sub (Nat.sub n 1) k))) 13407807929942597099574024998205846127479365820592393377723561443721764030073546976801874298166903427690031858186486050853753882811946569946433649006084096)) k

theorem blocks_nat (l : List UInt8) (n : Nat) (hl : l.length = 64 * n) : ∀ k, k ≤ n → (blocks l k).bn = blocksN (bn l) n k
  | 0, _ => by
    show S8.first.bn = iv
    decide +kernel
  | k + 1, hk => by
    have ih := blocks_nat l n hl k (by omega)
    have hb : ((l.drop (64 * k)).take 64).length = 64 := by rw [List.length_take, List.length_drop]; omega
    show (compress (blocks l k) ((l.drop (64 * k)).take 64)).bn = compressN (blocksN (bn l) n k) _
    rw [compress_nat _ _ hb, ih, bn_cut l (64 * k) 64 (by omega), hl]
    congr 1
    show _ = (bn l >>> (512 * (n - 1 - k))) % _
    rw [Nat.shiftRight_eq_div_pow]
    have e : (256 : Nat) ^ (64 * n - 64 * k - 64) = 2 ^ (512 * (n - 1 - k)) := by
      rw [show (256 : Nat) = 2 ^ 8 from rfl, ← Nat.pow_mul]
      congr 1
      omega
    rw [e]

theorem be_num : ∀ (n x : Nat), bn (be n x) = x % 256 ^ n
  | 0, x => by simp [be, bn, Nat.mod_one]
  | n + 1, x => by
    have ih := be_num n x
    have e : be (n + 1) x = UInt8.ofNat (x / 256 ^ n) :: be n x := by
      unfold be
      rw [List.range_succ_eq_map, List.map_cons, List.map_map]
      congr 1
      apply List.map_congr_left
      intro i hi
      have := List.mem_range.1 hi
      show UInt8.ofNat (x / 256 ^ (n + 1 - 1 - (i + 1))) = UInt8.ofNat (x / 256 ^ (n - 1 - i))
      rw [show n + 1 - 1 - (i + 1) = n - 1 - i by omega]
    have hlen : (be n x).length = n := by simp [be]
    rw [e, bn_cons, ih, hlen]
    have h1 : (UInt8.ofNat (x / 256 ^ n)).toNat = x / 256 ^ n % 256 := by simp
    rw [h1, Nat.pow_succ, Nat.mod_mul]
    rw [Nat.mul_comm]
    omega

theorem bytes_nat (s : S8) : bn s.bytes = s.bn := by
  have hl : ∀ x : BitVec 32, (bytes x).length = 4 := fun x => by simp [bytes, be]
  have hn : ∀ x : BitVec 32, bn (bytes x) = x.toNat := fun x => by
    rw [bytes, be_num]
    exact Nat.mod_eq_of_lt x.isLt
  simp only [S8.bytes, bn_append, hl, hn, S8.bn, catN_eq]
  omega

/-- The digest of a text of so many bytes that are this number. -/
noncomputable def shaN (x len : Nat) : Nat :=
  (fun z => (fun n => blocksN (Nat.add (Nat.mul (Nat.add (Nat.mul x 256) 128) (Nat.pow 256 (Nat.add z 8))) (Nat.mul 8 len)) n n) (Nat.div (Nat.add (Nat.add (Nat.add len 1) z) 8) 64)) (Nat.mod (Nat.sub 120 (Nat.mod (Nat.add len 1) 64)) 64)

theorem sha_num (l : List UInt8) (h : l.length < 1000000000000000) : bn (sha l) = shaN (bn l) l.length := by
  obtain ⟨z, hz⟩ : ∃ z, (120 - (l.length + 1) % 64) % 64 = z := ⟨_, rfl⟩
  obtain ⟨n, hn⟩ : ∃ n, (l.length + 1 + z + 8) / 64 = n := ⟨_, rfl⟩
  have hb8 : (be 8 (8 * l.length)).length = 8 := by simp [be]
  have hpl : (pad l).length = 64 * n := by
    unfold pad
    rw [hz]
    simp only [List.length_append, List.length_replicate, hb8, List.length_singleton]
    omega
  have hrep : ∀ k, bn (List.replicate k 0) = 0 := by
    intro k
    induction k with
    | zero => rfl
    | succ k ih => rw [List.replicate_succ, bn_cons, ih]; simp
  have hpn : bn (pad l) = (bn l * 256 + 128) * 256 ^ (z + 8) + 8 * l.length := by
    unfold pad
    rw [hz, bn_append, bn_append, bn_append, hrep, be_num, hb8, List.length_replicate, Nat.mod_eq_of_lt (by omega)]
    have e1 : bn [(0x80 : UInt8)] = 128 := rfl
    rw [e1, List.length_singleton, Nat.pow_add]
    simp only [Nat.pow_one, Nat.add_zero, Nat.mul_assoc]
  have e : shaN (bn l) l.length = blocksN ((bn l * 256 + 128) * 256 ^ (z + 8) + 8 * l.length) n n := by
    subst hn hz
    rfl
  rw [e, ← hpn, sha, bytes_nat, hpl, Nat.mul_div_cancel_left _ (by decide)]
  exact blocks_nat (pad l) n hpl n (Nat.le_refl _)
end Go.Proofs.YtmfajekfipfjpaaGreat.Sha
namespace Go.Proofs.YtmfajekfipfjpaaGreat.Ots
open Sha (bn bn_append bn_cut bn_lt be_num sha_num shaN)

theorem be_num' (n x : Nat) (h : x < 256 ^ n) : bn (beL n x) = x := by
  have e : beL n x = Sha.be n x := rfl
  rw [e, be_num, Nat.mod_eq_of_lt h]

noncomputable def stepN (hd hl i j x : Nat) : Nat := shaN (Nat.add (Nat.mul (Nat.add (Nat.mul (Nat.add (Nat.mul hd 65536) i) 256) j) (Nat.pow 2 256)) x) (Nat.add hl 35)
noncomputable def stepsN (hd hl i f m x : Nat) : Nat := Nat.rec x (fun m ih => stepN hd hl i (Nat.add f m) ih) m
noncomputable def privN (hd hl i seed : Nat) : Nat := stepN hd hl i 255 seed
noncomputable def endsN (a : Nat) (f : Nat → Nat) (p : Nat) : Nat := Nat.rec a (fun i ih => Nat.add (Nat.mul ih (Nat.pow 2 256)) (f i)) p
noncomputable def gatherN (hd hl p : Nat) (f : Nat → Nat) : Nat := shaN (endsN (Nat.add (Nat.mul hd 65536) 32896) f p) (Nat.add (Nat.add hl 2) (Nat.mul 32 p))

theorem step_num (head : List UInt8) (i j : Nat) (x : List UInt8) (hx : x.length = 32) (hi : i < 65536) (hj : j < 256) (hh : head.length ≤ 1000) : bn (step head i j x) = stepN (bn head) head.length i j (bn x) := by
  have hl : (head ++ beL 2 i ++ beL 1 j ++ x).length = head.length + 35 := by
    simp only [List.length_append, beL_length, hx]
  unfold step
  rw [sha_num _ (by rw [hl]; omega), hl]
  unfold stepN
  congr 1
  rw [bn_append, bn_append, bn_append, be_num' 2 i (by omega), be_num' 1 j (by omega), beL_length, beL_length, hx]
  show _ = ((bn head * 65536 + i) * 256 + j) * 2 ^ 256 + bn x
  rw [show (256 : Nat) ^ 32 = 2 ^ 256 by decide]

theorem priv_num (head : List UInt8) (i : Nat) (seed : List UInt8) (hs : seed.length = 32) (hi : i < 65536) (hh : head.length ≤ 1000) : bn (priv head i seed) = privN (bn head) head.length i (bn seed) := by
  have e : priv head i seed = step head i 255 seed := rfl
  rw [e, step_num head i 255 seed hs hi (by decide) hh]
  rfl

theorem sha_len (l : List UInt8) : (Sha.sha l).length = 32 := by
  simp [Sha.sha, Sha.S8.bytes, Sha.bytes, Sha.be]

theorem steps_len' (head : List UInt8) (i f : Nat) (x : List UInt8) (hx : x.length = 32) : ∀ m, (steps head i f m x).length = 32
  | 0 => hx
  | _ + 1 => sha_len _

theorem steps_num (head : List UInt8) (i f : Nat) (x : List UInt8) (hx : x.length = 32) (hi : i < 65536) (hh : head.length ≤ 1000) : ∀ m, f + m ≤ 256 → bn (steps head i f m x) = stepsN (bn head) head.length i f m (bn x)
  | 0, _ => rfl
  | m + 1, hm => by
    have ih := steps_num head i f x hx hi hh m (by omega)
    rw [steps_next, step_num head i (f + m) _ (steps_len' head i f x hx m) hi (by omega) hh, ih]
    rfl

theorem ends_num (A : List UInt8) (f : Nat → List UInt8) (g : Nat → Nat) : ∀ p, (∀ i, i < p → (f i).length = 32 ∧ bn (f i) = g i) → bn (A ++ ((List.range p).map f).flatten) = endsN (bn A) g p ∧ (A ++ ((List.range p).map f).flatten).length = A.length + 32 * p
  | 0, _ => ⟨by simp only [List.range_zero, List.map_nil, List.flatten_nil, List.append_nil]; rfl, by simp⟩
  | p + 1, h => by
    obtain ⟨i1, i2⟩ := ends_num A f g p (fun i hi => h i (by omega))
    obtain ⟨l1, l2⟩ := h p (by omega)
    have e : A ++ ((List.range (p + 1)).map f).flatten = A ++ ((List.range p).map f).flatten ++ f p := by
      rw [List.range_succ, List.map_append, List.flatten_append]
      simp
    rw [e]
    refine ⟨?_, by rw [List.length_append, i2, l1]; omega⟩
    rw [bn_append, i1, l1, l2, show (256 : Nat) ^ 32 = 2 ^ 256 by decide]
    rfl

theorem gather_num (head : List UInt8) (f : Nat → List UInt8) (g : Nat → Nat) (p : Nat) (hp : p ≤ 1000) (hh : head.length ≤ 1000) (h : ∀ i, i < p → (f i).length = 32 ∧ bn (f i) = g i) : bn (gather head ((List.range p).map f)) = gatherN (bn head) head.length p g := by
  obtain ⟨i1, i2⟩ := ends_num (head ++ [0x80, 0x80]) f g p h
  have hl : (head ++ [0x80, 0x80] : List UInt8).length = head.length + 2 := by simp
  rw [hl] at i2
  unfold gather
  rw [sha_num _ (by rw [i2]; omega), i1, i2, bn_append]
  rfl

noncomputable def pubN (hd hl seed p top : Nat) : Nat := gatherN hd hl p (fun i => stepsN hd hl i 0 top (privN hd hl i seed))

theorem pub_num (o : Par) (head seed : List UInt8) (ho : o.p ≤ 1000) (ht : o.top ≤ 255) (hs : seed.length = 32) (hh : head.length ≤ 1000) : bn (pub o head seed) = pubN (bn head) head.length (bn seed) o.p o.top := by
  refine gather_num head _ _ o.p ho hh (fun i hi => ⟨steps_len' _ _ _ _ (sha_len _) _, ?_⟩)
  rw [steps_num head i 0 (priv head i seed) (sha_len _) (by omega) hh o.top (by omega), priv_num head i seed hs (by omega) hh]

/-- Digits of four bits. -/
def dig4 (x n i : Nat) : Nat := Nat.mod (Nat.div x (Nat.pow 2 (Nat.sub (Nat.mul 8 n) (Nat.mul 4 (Nat.add i 1))))) 16
def left4 (q : Nat) : Nat := Nat.rec 0 (fun i ih => Nat.add ih (Nat.sub 15 (dig4 q 32 i))) 64

theorem getD_num (s : List UInt8) (k : Nat) (h : k < s.length) : (s.getD k 0).toNat = bn s / 256 ^ (s.length - 1 - k) % 256 := by
  have e := bn_cut s k 1 (by omega)
  have e1 : (s.drop k).take 1 = [s.getD k 0] := by
    rw [List.drop_eq_getElem_cons h, List.getD_eq_getElem?_getD, List.getElem?_eq_getElem h]
    rfl
  rw [e1] at e
  have e2 : bn [s.getD k 0] = (s.getD k 0).toNat := by simp [bn]
  rw [e2] at e
  rw [e, show s.length - k - 1 = s.length - 1 - k by omega]

theorem digit4_num (s : List UInt8) (i : Nat) (h : i < 2 * s.length) : digit s i 4 = dig4 (bn s) s.length i := by
  unfold digit
  rw [getD_num s (i * 4 / 8) (by omega)]
  show _ = bn s / 2 ^ (8 * s.length - 4 * (i + 1)) % 16
  rcases Nat.mod_two_eq_zero_or_one i with h2 | h2
  · have e1 : 8 - 4 - i * 4 % 8 = 4 := by omega
    have e3 : 8 * s.length - 4 * (i + 1) = 8 * (s.length - 1 - i * 4 / 8) + 4 := by omega
    rw [e1, e3, Nat.pow_add, ← Nat.div_div_eq_div_mul, Nat.pow_mul]
    show (bn s / 256 ^ (s.length - 1 - i * 4 / 8) % 256) / 16 % 16 = bn s / 256 ^ (s.length - 1 - i * 4 / 8) / 16 % 16
    omega
  · have e1 : 8 - 4 - i * 4 % 8 = 0 := by omega
    have e3 : 8 * s.length - 4 * (i + 1) = 8 * (s.length - 1 - i * 4 / 8) := by omega
    rw [e1, e3, Nat.pow_mul]
    show (bn s / 256 ^ (s.length - 1 - i * 4 / 8) % 256) / 1 % 16 = bn s / 256 ^ (s.length - 1 - i * 4 / 8) % 16
    omega

def o4 : Par := ⟨4, 67, 4⟩

theorem sum_range (f : Nat → Nat) : ∀ n, ((List.range n).map f).sum = Nat.rec 0 (fun i ih => Nat.add ih (f i)) n
  | 0 => rfl
  | n + 1 => by
    have ih := sum_range f n
    rw [List.range_succ, List.map_append, List.sum_append, ih]
    simp

theorem left4_num (q : List UInt8) (hq : q.length = 32) : left o4 (firsts o4 q) = left4 (bn q) := by
  unfold left firsts left4
  rw [List.map_map, ← sum_range (fun i => Nat.sub 15 (dig4 (bn q) 32 i))]
  show ((List.range 64).map _).sum = _
  congr 1
  apply List.map_congr_left
  intro i hi
  have := List.mem_range.1 hi
  show o4.top - digit q i 4 = _
  rw [digit4_num q i (by omega), hq]
  rfl

def digs4 (q i : Nat) : Nat := Nat.rec (dig4 q 32 i) (fun _ _ => dig4 (Nat.mul (left4 q) 16) 2 (Nat.sub i 64)) (Nat.div i 64)

theorem digs4_num (q : List UInt8) (hq : q.length = 32) (i : Nat) (hi : i < 67) : (digitsOf o4 q).getD i 0 = digs4 (bn q) i := by
  have hfl : (firsts o4 q).length = 64 := by simp [firsts, o4]
  unfold digitsOf
  by_cases h : i < 64
  · have hd : i / 64 = 0 := Nat.div_eq_of_lt h
    have e : digs4 (bn q) i = dig4 (bn q) 32 i := by
      have hd' : Nat.div i 64 = 0 := hd
      unfold digs4
      rw [hd']
      rfl
    rw [Sha.getD_left _ _ _ _ (by rw [hfl]; exact h), e]
    unfold firsts
    rw [List.getD_eq_getElem?_getD, List.getElem?_map, List.getElem?_range (show i < 256 / o4.w from h)]
    show digit q i 4 = _
    rw [digit4_num q i (by omega), hq]
  · have hd : i / 64 = 1 := by omega
    have e : digs4 (bn q) i = dig4 (left4 (bn q) * 16) 2 (i - 64) := by
      have hd' : Nat.div i 64 = 1 := hd
      unfold digs4
      rw [hd']
      rfl
    rw [e, List.getD_eq_getElem?_getD, List.getElem?_append_right (by rw [hfl]; omega), hfl, List.getElem?_map, List.getElem?_range (show i - 64 < o4.p - 256 / o4.w by show i - 64 < 3; omega)]
    show digit (beL 2 (left o4 (firsts o4 q) * 2 ^ 4)) (i - 64) 4 = _
    have hl4 : left4 (bn q) ≤ 960 := by
      rw [← left4_num q hq]
      unfold left
      have hb : ∀ l : List Nat, (l.map fun d => o4.top - d).sum ≤ 15 * l.length := by
        intro l
        induction l with
        | nil => simp
        | cons x l ih =>
          have : o4.top = 15 := rfl
          simp only [List.map_cons, List.sum_cons, List.length_cons]
          omega
      have := hb (firsts o4 q)
      rw [hfl] at this
      omega
    rw [left4_num q hq, digit4_num _ _ (by rw [beL_length]; omega), beL_length, be_num' 2 _ (by omega)]
end Go.Proofs.YtmfajekfipfjpaaGreat.Ots
namespace Go.Proofs.YtmfajekfipfjpaaGreat.Ots
open Sha (bn bn_append bn_cut bn_lt be_num sha_num shaN)
attribute [local irreducible] Sha.compress Sha.blocks Sha.sha Sha.pad

theorem sha32 (t : List UInt8) : (Sha.sha t).length = 32 := sha_len t

/-- What a signature of one message makes of another one: four bits a digit. -/
noncomputable def candN (hd hl seed qm qx : Nat) : Nat :=
  gatherN hd hl 67 (fun i => stepsN hd hl i (digs4 qx i) (Nat.sub 15 (digs4 qx i)) (stepsN hd hl i 0 (digs4 qm i) (privN hd hl i seed)))
noncomputable def msgN (hd hl salt m ml : Nat) : Nat := shaN (Nat.add (Nat.mul (Nat.add (Nat.mul (Nat.add (Nat.mul hd 65536) 33153) (Nat.pow 2 256)) salt) (Nat.pow 256 ml)) m) (Nat.add (Nat.add hl 34) ml)

theorem msg_num (head salt m : List UInt8) (hs : salt.length = 32) (hh : head.length ≤ 1000) (hm : m.length ≤ 1000000) : bn (Sha.sha (head ++ [0x81, 0x81] ++ salt ++ m)) = msgN (bn head) head.length (bn salt) (bn m) m.length := by
  have hl : (head ++ [0x81, 0x81] ++ salt ++ m).length = head.length + 34 + m.length := by simp only [List.length_append, hs]; rfl
  rw [sha_num _ (by rw [hl]; omega), hl, bn_append, bn_append, bn_append, hs, show (256 : Nat) ^ 32 = 2 ^ 256 by decide]
  rfl

theorem cand_num (kind : Nat) (head seed m x : List UInt8) (hs : seed.length = 32) (hh : head.length ≤ 1000) (hm : m.length ≤ 1000000) (hx : x.length ≤ 1000000) :
    bn (cand o4 head x (sign o4 kind head seed m)) = candN (bn head) head.length (bn seed) (msgN (bn head) head.length (privN (bn head) head.length 65533 (bn seed)) (bn m) m.length) (msgN (bn head) head.length (privN (bn head) head.length 65533 (bn seed)) (bn x) x.length) := by
  have hsl : (salt head seed).length = 32 := sha32 _
  have hsn : bn (salt head seed) = privN (bn head) head.length 65533 (bn seed) := priv_num head 65533 seed hs (by decide) hh
  unfold cand
  rw [sign_salt sha32]
  have hd : ∀ y : List UInt8, y.length ≤ 1000000 → ∀ i, i < 67 → (digits o4 head (salt head seed) y).getD i 0 = digs4 (msgN (bn head) head.length (privN (bn head) head.length 65533 (bn seed)) (bn y) y.length) i := fun y hy i hi => by
    unfold digits
    rw [digs4_num _ (sha32 _) i hi, msg_num head (salt head seed) y hsl hh hy, hsn]
  refine gather_num head _ _ 67 (by decide) hh (fun i hi => ?_)
  rw [sign_part sha32 o4 kind head seed m i hi]
  have hc : (chain o4 head seed m i).length = 32 := chain_len sha32 _ _ _ _ _
  have l1 := digits_le o4 head (salt head seed) m i
  have l2 := digits_le o4 head (salt head seed) x i
  have ht : o4.top = 15 := rfl
  refine ⟨steps_len' _ _ _ _ hc _, ?_⟩
  rw [steps_num head i _ _ hc (by omega) hh _ (by omega)]
  unfold chain
  rw [steps_num head i 0 (priv head i seed) (sha32 _) (by omega) hh _ (by omega), priv_num head i seed hs (by omega) hh, hd m hm i hi, hd x hx i hi]
  rfl
end Go.Proofs.YtmfajekfipfjpaaGreat.Ots
namespace Go.Proofs.YtmfajekfipfjpaaGreat.Lms
open Sha (bn bn_append sha_num shaN)
attribute [local irreducible] Sha.compress Sha.blocks Sha.sha Sha.pad

/-- The node over one leaf's key; the node over two. -/
def leaf (id : List UInt8) (r : Nat) (y : List UInt8) : List UInt8 := Sha.sha (id ++ beL 4 r ++ [0x82, 0x82] ++ y)
def join (id : List UInt8) (r : Nat) (a b : List UInt8) : List UInt8 := Sha.sha (id ++ beL 4 r ++ [0x83, 0x83] ++ a ++ b)
/-- Node r, so many levels over the leaves; f: the leaves' keys. -/
def node (id : List UInt8) (f : Nat → List UInt8) : Nat → Nat → List UInt8
  | 0, r => leaf id r (f r)
  | j + 1, r => join id r (node id f j (2 * r)) (node id f j (2 * r + 1))
/-- The number beside r. -/
def other (r : Nat) : Nat := if r % 2 = 0 then r + 1 else r - 1
/-- The nodes beside the way from r up, m of them; r is j levels over the leaves. -/
def path (id : List UInt8) (f : Nat → List UInt8) : Nat → Nat → Nat → List (List UInt8)
  | 0, _, _ => []
  | m + 1, j, r => node id f j (other r) :: path id f m (j + 1) (r / 2)
/-- What a node and those beside its way come to. -/
def climb (id : List UInt8) : List (List UInt8) → Nat → List UInt8 → List UInt8
  | [], _, x => x
  | y :: ys, r, x => climb id ys (r / 2) (if r % 2 = 0 then join id (r / 2) x y else join id (r / 2) y x)

theorem climb_path (id : List UInt8) (f : Nat → List UInt8) : ∀ m j r, climb id (path id f m j r) r (node id f j r) = node id f (j + m) (r / 2 ^ m)
  | 0, j, r => by simp [path, climb]
  | m + 1, j, r => by
    have ih := climb_path id f m (j + 1) (r / 2)
    have e : (if r % 2 = 0 then join id (r / 2) (node id f j r) (node id f j (other r)) else join id (r / 2) (node id f j (other r)) (node id f j r)) = node id f (j + 1) (r / 2) := by
      unfold other
      rw [node]
      by_cases h : r % 2 = 0
      · rw [if_pos h, if_pos h]
        have e1 : 2 * (r / 2) = r := by omega
        rw [e1]
      · rw [if_neg h, if_neg h]
        have e1 : 2 * (r / 2) = r - 1 := by omega
        have e2 : r - 1 + 1 = r := by omega
        rw [e1, e2]
    rw [path, climb, e, ih, Nat.div_div_eq_div_mul, ← Nat.pow_succ']
    congr 1
    omega

theorem leaf_len (id : List UInt8) (r : Nat) (y : List UInt8) : (leaf id r y).length = 32 := Ots.sha32 _
theorem join_len (id : List UInt8) (r : Nat) (a b : List UInt8) : (join id r a b).length = 32 := Ots.sha32 _
theorem pub_len (o : Ots.Par) (hd s : List UInt8) : (Ots.pub o hd s).length = 32 := Ots.sha32 _
theorem cand_len (o : Ots.Par) (hd m s : List UInt8) : (Ots.cand o hd m s).length = 32 := Ots.sha32 _
theorem node_len (id : List UInt8) (f : Nat → List UInt8) : ∀ j r, (node id f j r).length = 32
  | 0, _ => Ots.sha32 _
  | _ + 1, _ => Ots.sha32 _
theorem path_len (id : List UInt8) (f : Nat → List UInt8) : ∀ m j r, (path id f m j r).length = m
  | 0, _, _ => rfl
  | m + 1, j, r => by rw [path, List.length_cons, path_len id f m]

noncomputable def leafN (id r y : Nat) : Nat := shaN (Nat.add (Nat.mul (Nat.add (Nat.mul (Nat.add (Nat.mul id 4294967296) r) 65536) 33410) (Nat.pow 2 256)) y) 54
noncomputable def joinN (id r a b : Nat) : Nat := shaN (Nat.add (Nat.mul (Nat.add (Nat.mul (Nat.add (Nat.mul (Nat.add (Nat.mul id 4294967296) r) 65536) 33667) (Nat.pow 2 256)) a) (Nat.pow 2 256)) b) 86
theorem leaf_num (id : List UInt8) (r : Nat) (y : List UInt8) (hi : id.length = 16) (hr : r < 4294967296) (hy : y.length = 32) : bn (leaf id r y) = leafN (bn id) r (bn y) := by
  have hl : (id ++ beL 4 r ++ [0x82, 0x82] ++ y).length = 54 := by simp only [List.length_append, hi, hy, beL_length]; rfl
  unfold leaf
  rw [sha_num _ (by rw [hl]; decide), hl, bn_append, bn_append, bn_append, hy, beL_length, Ots.be_num' 4 r (by omega), show (256 : Nat) ^ 32 = 2 ^ 256 by decide]
  rfl
theorem join_num (id : List UInt8) (r : Nat) (a b : List UInt8) (hi : id.length = 16) (hr : r < 4294967296) (ha : a.length = 32) (hb : b.length = 32) : bn (join id r a b) = joinN (bn id) r (bn a) (bn b) := by
  have hl : (id ++ beL 4 r ++ [0x83, 0x83] ++ a ++ b).length = 86 := by simp only [List.length_append, hi, ha, hb, beL_length]; rfl
  unfold join
  rw [sha_num _ (by rw [hl]; decide), hl, bn_append, bn_append, bn_append, bn_append, ha, hb, beL_length, Ots.be_num' 4 r (by omega), show (256 : Nat) ^ 32 = 2 ^ 256 by decide]
  rfl

/-- The keys of a tree's leaves. -/
def keys (o : Ots.Par) (id seed : List UInt8) (h : Nat) (r : Nat) : List UInt8 := Ots.pub o (Ots.head id (r - 2 ^ h)) seed

noncomputable def keyN (id seed q : Nat) : Nat := Ots.pubN (Nat.add (Nat.mul id 4294967296) q) 20 seed 67 15
noncomputable def wrongN (id seed q m ml x xl : Nat) : Nat :=
  (fun hd => (fun s => Ots.candN hd 20 seed (Ots.msgN hd 20 s m ml) (Ots.msgN hd 20 s x xl)) (Ots.privN hd 20 65533 seed)) (Nat.add (Nat.mul id 4294967296) q)

theorem head_num (id : List UInt8) (q : Nat) (hi : id.length = 16) (hq : q < 4294967296) : bn (Ots.head id q) = bn id * 4294967296 + q ∧ (Ots.head id q).length = 20 := by
  unfold Ots.head
  refine ⟨?_, by rw [List.length_append, hi, beL_length]⟩
  rw [bn_append, beL_length, Ots.be_num' 4 q (by omega)]
theorem key_num (id seed : List UInt8) (q : Nat) (hi : id.length = 16) (hs : seed.length = 32) (hq : q < 4294967296) : bn (Ots.pub Ots.o4 (Ots.head id q) seed) = keyN (bn id) (bn seed) q := by
  obtain ⟨h1, h2⟩ := head_num id q hi hq
  rw [Ots.pub_num Ots.o4 _ _ (by decide) (by decide) hs (by omega), h1, h2]
  rfl
theorem wrong_num (id seed : List UInt8) (q : Nat) (m x : List UInt8) (kind : Nat) (hi : id.length = 16) (hs : seed.length = 32) (hq : q < 4294967296) (hm : m.length ≤ 1000000) (hx : x.length ≤ 1000000) :
    bn (Ots.cand Ots.o4 (Ots.head id q) x (Ots.sign Ots.o4 kind (Ots.head id q) seed m)) = wrongN (bn id) (bn seed) q (bn m) m.length (bn x) x.length := by
  obtain ⟨h1, h2⟩ := head_num id q hi hq
  rw [Ots.cand_num kind _ seed m x hs (by omega) hm hx, h1, h2]
  rfl

end Go.Proofs.YtmfajekfipfjpaaGreat.Lms
namespace Go.Proofs.YtmfajekfipfjpaaGreat.Lms
/-! The order in which a tree's nodes are made: each behind those below it; left ones wait for the right ones. -/

/-- The left nodes that wait when node r is about to be made; r is l levels under the root. -/
def wait : Nat → Nat → List Nat
  | 0, _ => []
  | l + 1, r => wait l (r / 2) ++ (if r % 2 = 1 then [r - 1] else [])
/-- The nodes that leaf r lets be made, from node r on. -/
def chain : Nat → Nat → List Nat
  | 0, r => [r]
  | l + 1, r => r :: (if r % 2 = 1 then chain l (r / 2) else [])
/-- All nodes behind q leaves. -/
def made (h : Nat) : Nat → List Nat
  | 0 => []
  | q + 1 => made h q ++ chain h (2 ^ h + q)

theorem wait_zeros : ∀ (m l r : Nat), wait (l + m) (r * 2 ^ m) = wait l r
  | 0, l, r => by simp
  | m + 1, l, r => by
    have ih := wait_zeros m l r
    rw [← Nat.add_assoc, wait, Nat.pow_succ]
    have e1 : r * (2 ^ m * 2) / 2 = r * 2 ^ m := by rw [← Nat.mul_assoc]; exact Nat.mul_div_cancel _ (by decide)
    have e2 : r * (2 ^ m * 2) % 2 = 0 := by rw [← Nat.mul_assoc]; exact Nat.mul_mod_left _ _
    rw [e1, e2, ih]
    simp

/-- Behind a leaf's last node, which is a left one, it waits, too. -/
theorem wait_next (h l r L : Nat) (hl : l ≤ h) (hl1 : 1 ≤ l) (hr : r % 2 = 0) (hL : L + 1 = (r + 1) * 2 ^ (h - l)) : wait h (L + 1) = wait l r ++ [r] := by
  obtain ⟨m, rfl⟩ : ∃ m, h = l + m := ⟨h - l, by omega⟩
  have e : l + m - l = m := by omega
  rw [e] at hL
  rw [hL, wait_zeros]
  obtain ⟨k, rfl⟩ : ∃ k, l = k + 1 := ⟨l - 1, by omega⟩
  rw [wait, wait]
  have e1 : (r + 1) / 2 = r / 2 := by omega
  have e2 : (r + 1) % 2 = 1 := by omega
  have e3 : ¬ r % 2 = 1 := by omega
  rw [e1, if_pos e2, if_neg e3, List.append_nil]
  rfl

theorem wait_odd (l r : Nat) (h : r % 2 = 1) : wait (l + 1) r = wait l (r / 2) ++ [r - 1] := by rw [wait, if_pos h]
theorem wait_low (l r : Nat) (h : r % 2 = 0) : wait (l + 1) r = wait l (r / 2) := by
  rw [wait, if_neg (by omega), List.append_nil]
theorem chain_odd (l r : Nat) (h : r % 2 = 1) : chain (l + 1) r = r :: chain l (r / 2) := by rw [chain, if_pos h]
theorem chain_low (l r : Nat) (h : r % 2 = 0) : chain (l + 1) r = [r] := by rw [chain, if_neg (by omega)]

theorem wait_len : ∀ l r, (wait l r).length ≤ l
  | 0, _ => Nat.le_refl _
  | l + 1, r => by
    have ih := wait_len l (r / 2)
    rw [wait, List.length_append]
    split <;> simp <;> omega
theorem wait_start : ∀ h, wait h (2 ^ h) = []
  | 0 => rfl
  | h + 1 => by
    have ih := wait_start h
    have e1 : 2 ^ (h + 1) / 2 = 2 ^ h := by rw [Nat.pow_succ]; exact Nat.mul_div_cancel _ (by decide)
    have e2 : 2 ^ (h + 1) % 2 = 0 := by rw [Nat.pow_succ]; exact Nat.mul_mod_left _ _
    rw [wait_low h _ e2, e1, ih]
theorem chain_len : ∀ l r, (chain l r).length ≤ l + 1
  | 0, _ => Nat.le_refl _
  | l + 1, r => by
    have ih := chain_len l (r / 2)
    rw [chain, List.length_cons]
    split <;> simp <;> omega
/-- Node r of a tree of height h. -/
def at_ (id : List UInt8) (f : Nat → List UInt8) (h r : Nat) : List UInt8 := node id f (h - Nat.log2 r) r
theorem log_at (l r : Nat) (h1 : 2 ^ l ≤ r) (h2 : r < 2 ^ (l + 1)) : Nat.log2 r = l := by
  have h0 : r ≠ 0 := by have := Nat.pow_pos (n := l) (show 0 < 2 by decide); omega
  have a := (Nat.le_log2 h0).2 h1
  have b := (Nat.log2_lt h0).2 h2
  omega
theorem at_leaf (id : List UInt8) (f : Nat → List UInt8) (h r : Nat) (h1 : 2 ^ h ≤ r) (h2 : r < 2 ^ (h + 1)) : at_ id f h r = leaf id r (f r) := by
  rw [at_, log_at h r h1 h2, Nat.sub_self]
  rfl
theorem at_join (id : List UInt8) (f : Nat → List UInt8) (h r : Nat) (h0 : 1 ≤ r) (h1 : r < 2 ^ h) : at_ id f h r = join id r (at_ id f h (2 * r)) (at_ id f h (2 * r + 1)) := by
  have hr : r ≠ 0 := by omega
  obtain ⟨l, hl⟩ : ∃ l, Nat.log2 r = l := ⟨_, rfl⟩
  have a : 2 ^ l ≤ r := (Nat.le_log2 hr).1 (by omega)
  have b : r < 2 ^ (l + 1) := (Nat.log2_lt hr).1 (by omega)
  have hlh : l < h := (Nat.pow_lt_pow_iff_right (show 1 < 2 by decide)).1 (by omega)
  have p : 2 ^ (l + 1) = 2 * 2 ^ l := by rw [Nat.pow_succ, Nat.mul_comm]
  have p2 : 2 ^ (l + 1 + 1) = 2 * 2 ^ (l + 1) := by rw [Nat.pow_succ 2 (l + 1), Nat.mul_comm]
  have e1 := log_at (l + 1) (2 * r) (by omega) (by omega)
  have e2 := log_at (l + 1) (2 * r + 1) (by omega) (by omega)
  unfold at_
  rw [hl, e1, e2]
  obtain ⟨j, hj⟩ : ∃ j, h - l = j + 1 := ⟨h - l - 1, by omega⟩
  have hj2 : h - (l + 1) = j := by omega
  rw [hj, hj2]
  rfl
theorem at_root (id : List UInt8) (f : Nat → List UInt8) (h : Nat) : at_ id f h 1 = node id f h 1 := by
  have : Nat.log2 1 = 0 := by decide
  rw [at_, this, Nat.sub_zero]
theorem at_len (id : List UInt8) (f : Nat → List UInt8) (h r : Nat) : (at_ id f h r).length = 32 := node_len _ _ _ _

theorem path_at (id : List UInt8) (f : Nat → List UInt8) (h : Nat) : ∀ m j r, m + j = h → 2 ^ m ≤ r → r < 2 ^ (m + 1) → path id f m j r = (List.range m).map fun i => at_ id f h (other (r / 2 ^ i))
  | 0, j, r, hj, h1, h2 => rfl
  | m + 1, j, r, hj, h1, h2 => by
    have p : 2 ^ (m + 1) = 2 * 2 ^ m := by rw [Nat.pow_succ, Nat.mul_comm]
    have p2 : 2 ^ (m + 1 + 1) = 2 * 2 ^ (m + 1) := by rw [Nat.pow_succ 2 (m + 1), Nat.mul_comm]
    have ih := path_at id f h m (j + 1) (r / 2) (by omega) (by omega) (by omega)
    rw [path, ih, List.range_succ_eq_map, List.map_cons, List.map_map]
    have e0 : at_ id f h (other (r / 2 ^ 0)) = node id f j (other r) := by
      rw [Nat.pow_zero, Nat.div_one, at_]
      have hb : 2 ^ (m + 1) ≤ other r ∧ other r < 2 ^ (m + 1 + 1) := by
        unfold other
        split <;> omega
      rw [log_at (m + 1) (other r) hb.1 hb.2, show h - (m + 1) = j by omega]
    rw [e0]
    congr 1
    apply List.map_congr_left
    intro i _
    show _ = at_ id f h (other (r / 2 ^ (i + 1)))
    rw [Nat.div_div_eq_div_mul, ← Nat.pow_succ']
end Go.Proofs.YtmfajekfipfjpaaGreat.Lms
namespace Go.Proofs.YtmfajekfipfjpaaGreat.Lms
theorem made_all : ∀ h r, 1 ≤ h → h ≤ 5 → 1 ≤ r → r < 2 ^ (h + 1) → r ∈ made h (2 ^ h) := by
  have key : ∀ h, h < 6 → ∀ r, r < 64 → 1 ≤ r → r < 2 ^ (h + 1) → (made h (2 ^ h)).contains r = true := by decide +kernel
  intro h r h1 h2 h3 h4
  have h5 : 2 ^ (h + 1) ≤ 2 ^ 6 := Nat.pow_le_pow_right (by decide) (by omega)
  exact List.contains_iff_mem.1 (key h (by omega) r (by omega) h3 h4)
theorem sides_in (h q i : Nat) (hq : q < 2 ^ h) (hi : i < h) : 1 ≤ other ((2 ^ h + q) / 2 ^ i) ∧ other ((2 ^ h + q) / 2 ^ i) < 2 ^ (h + 1) := by
  have e : 2 ^ h = 2 ^ (h - i) * 2 ^ i := by rw [← Nat.pow_add]; congr 1; omega
  have p0 : 0 < 2 ^ i := Nat.pow_pos (by decide)
  have p1 : 2 ^ 1 ≤ 2 ^ (h - i) := Nat.pow_le_pow_right (by decide) (by omega)
  have p2 : 2 ^ (h - i) ≤ 2 ^ h := Nat.pow_le_pow_right (by decide) (by omega)
  have p3 : 2 ^ (h + 1) = 2 * 2 ^ h := by rw [Nat.pow_succ, Nat.mul_comm]
  obtain ⟨x, hx⟩ : ∃ x, (2 ^ h + q) / 2 ^ i = x := ⟨_, rfl⟩
  have a : 2 ^ (h - i) ≤ x := by
    rw [← hx, Nat.le_div_iff_mul_le p0, ← e]
    omega
  have b : x < 2 * 2 ^ (h - i) := by
    rw [← hx, Nat.div_lt_iff_lt_mul p0, Nat.mul_assoc, ← e]
    omega
  rw [hx]
  unfold other
  split <;> omega
end Go.Proofs.YtmfajekfipfjpaaGreat.Lms
namespace Go.Proofs.YtmfajekfipfjpaaGreat.Lms
attribute [local irreducible] Sha.compress Sha.blocks Sha.sha Sha.pad

/-- A height's type; a type's height. -/
def typ (h : Nat) : Nat := if h = 5 then 5 else 4026531840 + h
def heightOf (t : Nat) : Option Nat := if t = 5 then some 5 else if 4026531841 ≤ t ∧ t ≤ 4026531844 then some (t - 4026531840) else none
theorem heightOf_typ (h : Nat) (h1 : 1 ≤ h) (h5 : h ≤ 5) : heightOf (typ h) = some h := by
  have hc : h = 1 ∨ h = 2 ∨ h = 3 ∨ h = 4 ∨ h = 5 := by omega
  rcases hc with rfl | rfl | rfl | rfl | rfl <;> rfl
theorem typ_lt (h : Nat) (h5 : h ≤ 5) : typ h < 4294967296 := by
  unfold typ
  split <;> omega

def pubL (o : Ots.Par) (kind h : Nat) (id seed : List UInt8) : List UInt8 := beL 4 (typ h) ++ beL 4 kind ++ id ++ node id (keys o id seed h) h 1
def signL (o : Ots.Par) (kind h : Nat) (id seed : List UInt8) (q : Nat) (msg : List UInt8) : List UInt8 :=
  beL 4 q ++ Ots.sign o kind (Ots.head id q) seed msg ++ beL 4 (typ h) ++ (path id (keys o id seed h) h 0 (2 ^ h + q)).flatten

/-- A text of nodes, cut. -/
def cuts (l : List UInt8) : Nat → List (List UInt8)
  | 0 => []
  | n + 1 => l.take 32 :: cuts (l.drop 32) n
theorem cuts_flat : ∀ (xs : List (List UInt8)), (∀ x ∈ xs, x.length = 32) → cuts xs.flatten xs.length = xs
  | [], _ => rfl
  | x :: xs, h => by
    have hx := h x (List.mem_cons_self ..)
    have ih := cuts_flat xs (fun y hy => h y (List.mem_cons_of_mem _ hy))
    rw [List.flatten_cons, List.length_cons, cuts, List.take_left' hx, List.drop_left' hx, ih]
theorem flat_len : ∀ (xs : List (List UInt8)), (∀ x ∈ xs, x.length = 32) → xs.flatten.length = 32 * xs.length
  | [], _ => rfl
  | x :: xs, h => by
    have hx := h x (List.mem_cons_self ..)
    have ih := flat_len xs (fun y hy => h y (List.mem_cons_of_mem _ hy))
    rw [List.flatten_cons, List.length_append, List.length_cons, hx, ih]
    omega
theorem path_32 (id : List UInt8) (f : Nat → List UInt8) : ∀ m j r, ∀ x ∈ path id f m j r, x.length = 32
  | 0, _, _ => fun x hx => by cases hx
  | m + 1, j, r => fun x hx => by
    rw [path] at hx
    rcases List.mem_cons.1 hx with rfl | hx
    · exact node_len _ _ _ _
    · exact path_32 id f m _ _ x hx

/-- What a signature comes to. -/
def rootOf (o : Ots.Par) (h : Nat) (id : List UInt8) (msg s : List UInt8) : List UInt8 :=
  climb id (cuts (s.drop (44 + 32 * o.p)) h) (2 ^ h + numL (s.take 4)) (leaf id (2 ^ h + numL (s.take 4)) (Ots.cand o (Ots.head id (numL (s.take 4))) msg ((s.drop 4).take (36 + 32 * o.p))))
/-- Has a signature the form that a public key asks for? -/
def formOk (o : Ots.Par) (h : Nat) (pb msg s : List UInt8) : Prop :=
  s.length = 44 + 32 * o.p + 32 * h ∧ msg.length ≤ 65536 ∧ numL (s.take 4) < 2 ^ h ∧ (s.drop 4).take 4 = (pb.drop 4).take 4 ∧ (s.drop (40 + 32 * o.p)).take 4 = pb.take 4
instance (o : Ots.Par) (h : Nat) (pb msg s : List UInt8) : Decidable (formOk o h pb msg s) := by unfold formOk; exact inferInstance
/-- What a check of a signature answers. -/
def verify (pb msg s : List UInt8) : Int :=
  if pb.length = 56 then
    match heightOf (numL (pb.take 4)), Ots.par (numL ((pb.drop 4).take 4) : Int) with
    | some h, some o => if formOk o h pb msg s then (if rootOf o h ((pb.drop 8).take 16) msg s = pb.drop 24 then 0 else 502) else 500
    | _, _ => 500
  else 500

theorem pub_parts (o : Ots.Par) (kind h : Nat) (id seed : List UInt8) (hi : id.length = 16) : (pubL o kind h id seed).length = 56 ∧ (pubL o kind h id seed).take 4 = beL 4 (typ h) ∧ ((pubL o kind h id seed).drop 4).take 4 = beL 4 kind ∧
    ((pubL o kind h id seed).drop 8).take 16 = id ∧ (pubL o kind h id seed).drop 24 = node id (keys o id seed h) h 1 := by
  have l4 : ∀ n, (beL 4 n).length = 4 := beL_length 4
  have e : pubL o kind h id seed = beL 4 (typ h) ++ (beL 4 kind ++ (id ++ node id (keys o id seed h) h 1)) := by simp only [pubL, List.append_assoc]
  rw [e]
  refine ⟨by simp only [List.length_append, l4, hi, node_len], List.take_left' (l4 _), ?_, ?_, ?_⟩
  · rw [List.drop_left' (l4 _)]
    exact List.take_left' (l4 _)
  · rw [show 8 = 4 + 4 from rfl, ← List.drop_drop, List.drop_left' (l4 _), List.drop_left' (l4 _)]
    exact List.take_left' hi
  · rw [show 24 = 4 + (4 + 16) from rfl, ← List.drop_drop, List.drop_left' (l4 _), ← List.drop_drop, List.drop_left' (l4 _)]
    exact List.drop_left' hi

theorem sign_parts (o : Ots.Par) (kind h : Nat) (id seed : List UInt8) (q : Nat) (msg : List UInt8) : (signL o kind h id seed q msg).length = 44 + 32 * o.p + 32 * h ∧ (signL o kind h id seed q msg).take 4 = beL 4 q ∧
    ((signL o kind h id seed q msg).drop 4).take 4 = beL 4 kind ∧ ((signL o kind h id seed q msg).drop 4).take (36 + 32 * o.p) = Ots.sign o kind (Ots.head id q) seed msg ∧
    ((signL o kind h id seed q msg).drop (40 + 32 * o.p)).take 4 = beL 4 (typ h) ∧ cuts ((signL o kind h id seed q msg).drop (44 + 32 * o.p)) h = path id (keys o id seed h) h 0 (2 ^ h + q) := by
  have l4 : ∀ n, (beL 4 n).length = 4 := beL_length 4
  have ls := Ots.sign_len Ots.sha32 o kind (Ots.head id q) seed msg
  have lk := Ots.sign_kind o kind (Ots.head id q) seed msg
  have lp := path_len id (keys o id seed h) h 0 (2 ^ h + q)
  have l32 := path_32 id (keys o id seed h) h 0 (2 ^ h + q)
  have e : signL o kind h id seed q msg = beL 4 q ++ (Ots.sign o kind (Ots.head id q) seed msg ++ (beL 4 (typ h) ++ (path id (keys o id seed h) h 0 (2 ^ h + q)).flatten)) := by simp only [signL, List.append_assoc]
  rw [e]
  refine ⟨?_, List.take_left' (l4 _), ?_, ?_, ?_, ?_⟩
  · simp only [List.length_append, l4, ls, flat_len _ l32, lp]
    omega
  · rw [List.drop_left' (l4 _), List.take_append_of_le_length (by rw [ls]; omega), lk]
  · rw [List.drop_left' (l4 _)]
    exact List.take_left' ls
  · rw [show 40 + 32 * o.p = 4 + (36 + 32 * o.p) by omega, ← List.drop_drop, List.drop_left' (l4 _), List.drop_left' ls]
    exact List.take_left' (l4 _)
  · rw [show 44 + 32 * o.p = 4 + ((36 + 32 * o.p) + 4) by omega, ← List.drop_drop, List.drop_left' (l4 _), ← List.drop_drop, List.drop_left' ls, List.drop_left' (l4 _)]
    have := cuts_flat _ l32
    rw [lp] at this
    exact this

/-- A signature of one message, checked for another one. -/
theorem verify_sign (o : Ots.Par) (kind h : Nat) (id seed : List UInt8) (q : Nat) (m x : List UInt8) (ho : Ots.par (kind : Int) = some o) (hk : kind < 4294967296) (h1 : 1 ≤ h) (h5 : h ≤ 5) (hi : id.length = 16) (hq : q < 2 ^ h) (hx : x.length ≤ 65536) :
    verify (pubL o kind h id seed) x (signL o kind h id seed q m) =
      if climb id (path id (keys o id seed h) h 0 (2 ^ h + q)) (2 ^ h + q) (leaf id (2 ^ h + q) (Ots.cand o (Ots.head id q) x (Ots.sign o kind (Ots.head id q) seed m))) = node id (keys o id seed h) h 1 then 0 else 502 := by
  obtain ⟨p1, p2, p3, p4, p5⟩ := pub_parts o kind h id seed hi
  obtain ⟨s1, s2, s3, s4, s5, s6⟩ := sign_parts o kind h id seed q m
  have hq4 : q < 4294967296 := Nat.lt_of_lt_of_le hq (Nat.le_trans (Nat.pow_le_pow_right (by decide) h5) (by decide))
  have nq : numL (beL 4 q) = q := numL_be 4 q hq4
  have nk : numL (beL 4 kind) = kind := numL_be 4 kind hk
  have nt : numL (beL 4 (typ h)) = typ h := numL_be 4 _ (typ_lt h h5)
  unfold verify
  rw [if_pos p1, p2, p3, nk, nt, heightOf_typ h h1 h5, ho]
  simp only
  have hf : formOk o h (pubL o kind h id seed) x (signL o kind h id seed q m) := ⟨s1, hx, by rw [s2, nq]; exact hq, by rw [s3, p3], by rw [s5, p2]⟩
  rw [if_pos hf, p4, p5]
  unfold rootOf
  rw [s6, s2, s4, nq]

theorem verify_ok (o : Ots.Par) (kind h : Nat) (id seed : List UInt8) (q : Nat) (m : List UInt8) (ho : Ots.par (kind : Int) = some o) (hk : kind < 4294967296) (h1 : 1 ≤ h) (h5 : h ≤ 5) (hi : id.length = 16) (hq : q < 2 ^ h) (hx : m.length ≤ 65536) :
    verify (pubL o kind h id seed) m (signL o kind h id seed q m) = 0 := by
  rw [verify_sign o kind h id seed q m m ho hk h1 h5 hi hq hx, Ots.cand_sign Ots.sha32]
  have e : leaf id (2 ^ h + q) (Ots.pub o (Ots.head id q) seed) = node id (keys o id seed h) 0 (2 ^ h + q) := by
    rw [node, keys, Nat.add_sub_cancel_left]
  have hd : (2 ^ h + q) / 2 ^ h = 1 := by
    rw [Nat.add_div_left _ (Nat.pow_pos (by decide)), Nat.div_eq_of_lt hq]
  rw [e, climb_path, hd, Nat.zero_add, if_pos rfl]
end Go.Proofs.YtmfajekfipfjpaaGreat.Lms
