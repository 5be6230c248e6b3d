/- SHA-256 on natural numbers: as the kernel reckons it, some 6 ms a block (sha_num). No function of the program is named here. -/
import Derived.Test.YtpjfhbmegabafaaLShaText
namespace Go.Proofs.Ytpjfhbmegabafaa.Sha

/-! SHA-256 on natural numbers, as the kernel reckons it. -/

theorem rot_nat (x : BitVec 32) (n : Nat) (h1 : 0 < n) (h2 : n < 32) : (rot x n).toNat = (x.toNat * 4294967297) >>> n % 4294967296 := by
  have e : x.toNat * 4294967297 = x.toNat <<< 32 ||| x.toNat := by
    rw [← Nat.shiftLeft_add_eq_or_of_lt x.isLt, Nat.shiftLeft_eq]
    omega
  have e2 : (4294967296 : Nat) = 2 ^ 32 := rfl
  rw [e, e2]
  apply Nat.eq_of_testBit_eq
  intro i
  have hx : ∀ j, 32 ≤ j → x.toNat.testBit j = false := fun j hj => Nat.testBit_lt_two_pow (Nat.lt_of_lt_of_le x.isLt (Nat.pow_le_pow_right (by decide) hj))
  simp only [rot, BitVec.toNat_or, BitVec.toNat_ushiftRight, BitVec.toNat_shiftLeft, Nat.testBit_or, Nat.testBit_mod_two_pow, Nat.testBit_shiftRight, Nat.testBit_shiftLeft]
  by_cases hi : i < 32
  · by_cases hn : 32 ≤ n + i
    · have e3 : i - (32 - n) = n + i - 32 := by omega
      have e4 : 32 - n ≤ i := by omega
      simp [hi, hn, e3, e4, hx (n + i) hn]
    · have e4 : ¬ 32 - n ≤ i := by omega
      simp [hi, hn, e4]
  · simp [hi, hx (n + i) (by omega)]

theorem xor3_mod (a b c : Nat) : (a ^^^ b ^^^ c) % 4294967296 = (a % 4294967296) ^^^ (b % 4294967296) ^^^ (c % 4294967296) := by
  have e2 : (4294967296 : Nat) = 2 ^ 32 := rfl
  rw [e2, Nat.xor_mod_two_pow, Nat.xor_mod_two_pow]

theorem sum0_nat (x : BitVec 32) : (sum0 x).toNat = ((x.toNat * 4294967297) >>> 2 ^^^ (x.toNat * 4294967297) >>> 13 ^^^ (x.toNat * 4294967297) >>> 22) % 4294967296 := by
  rw [xor3_mod, sum0, BitVec.toNat_xor, BitVec.toNat_xor, rot_nat _ _ (by decide) (by decide), rot_nat _ _ (by decide) (by decide), rot_nat _ _ (by decide) (by decide)]
theorem sum1_nat (x : BitVec 32) : (sum1 x).toNat = ((x.toNat * 4294967297) >>> 6 ^^^ (x.toNat * 4294967297) >>> 11 ^^^ (x.toNat * 4294967297) >>> 25) % 4294967296 := by
  rw [xor3_mod, sum1, BitVec.toNat_xor, BitVec.toNat_xor, rot_nat _ _ (by decide) (by decide), rot_nat _ _ (by decide) (by decide), rot_nat _ _ (by decide) (by decide)]
theorem shr_mod (x : BitVec 32) (n : Nat) : x.toNat >>> n % 4294967296 = x.toNat >>> n := Nat.mod_eq_of_lt (Nat.lt_of_le_of_lt (by rw [Nat.shiftRight_eq_div_pow]; exact Nat.div_le_self _ _) x.isLt)
theorem sig0_nat (x : BitVec 32) : (sig0 x).toNat = ((x.toNat * 4294967297) >>> 7 ^^^ (x.toNat * 4294967297) >>> 18 ^^^ x.toNat >>> 3) % 4294967296 := by
  rw [xor3_mod, sig0, BitVec.toNat_xor, BitVec.toNat_xor, rot_nat _ _ (by decide) (by decide), rot_nat _ _ (by decide) (by decide), BitVec.toNat_ushiftRight, shr_mod]
theorem sig1_nat (x : BitVec 32) : (sig1 x).toNat = ((x.toNat * 4294967297) >>> 17 ^^^ (x.toNat * 4294967297) >>> 19 ^^^ x.toNat >>> 10) % 4294967296 := by
  rw [xor3_mod, sig1, BitVec.toNat_xor, BitVec.toNat_xor, rot_nat _ _ (by decide) (by decide), rot_nat _ _ (by decide) (by decide), BitVec.toNat_ushiftRight, shr_mod]
theorem ch_nat (e f g : BitVec 32) : (ch e f g).toNat = g.toNat ^^^ (e.toNat &&& (f.toNat ^^^ g.toNat)) := by
  rw [← ch_alt, BitVec.toNat_xor, BitVec.toNat_and, BitVec.toNat_xor]
theorem maj_nat (a b c : BitVec 32) : (maj a b c).toNat = (a.toNat &&& b.toNat) ||| (c.toNat &&& (a.toNat ||| b.toNat)) := by
  rw [← maj_alt, BitVec.toNat_or, BitVec.toNat_and, BitVec.toNat_and, BitVec.toNat_or]

def ksN : List Nat := [
  0x428a2f98, 0x71374491, 0xb5c0fbcf, 0xe9b5dba5, 0x3956c25b, 0x59f111f1, 0x923f82a4, 0xab1c5ed5,
  0xd807aa98, 0x12835b01, 0x243185be, 0x550c7dc3, 0x72be5d74, 0x80deb1fe, 0x9bdc06a7, 0xc19bf174,
  0xe49b69c1, 0xefbe4786, 0x0fc19dc6, 0x240ca1cc, 0x2de92c6f, 0x4a7484aa, 0x5cb0a9dc, 0x76f988da,
  0x983e5152, 0xa831c66d, 0xb00327c8, 0xbf597fc7, 0xc6e00bf3, 0xd5a79147, 0x06ca6351, 0x14292967,
  0x27b70a85, 0x2e1b2138, 0x4d2c6dfc, 0x53380d13, 0x650a7354, 0x766a0abb, 0x81c2c92e, 0x92722c85,
  0xa2bfe8a1, 0xa81a664b, 0xc24b8b70, 0xc76c51a3, 0xd192e819, 0xd6990624, 0xf40e3585, 0x106aa070,
  0x19a4c116, 0x1e376c08, 0x2748774c, 0x34b0bcb5, 0x391c0cb3, 0x4ed8aa4a, 0x5b9cca4f, 0x682e6ff3,
  0x748f82ee, 0x78a5636f, 0x84c87814, 0x8cc70208, 0x90befffa, 0xa4506ceb, 0xbef9a3f7, 0xc67178f2]
theorem ksN_eq : ksN = ks.map BitVec.toNat := by decide +kernel

/-- What a round adds, and the schedule's next word, the sums not cut. -/
def t1N (k w e f g h : Nat) : Nat :=
  (fun ye => Nat.add (Nat.add (Nat.add (Nat.add h k) w) (Nat.xor g (Nat.land e (Nat.xor f g)))) (Nat.xor (Nat.xor (Nat.shiftRight ye 6) (Nat.shiftRight ye 11)) (Nat.shiftRight ye 25))) (Nat.mul e 4294967297)
def aN (t1 a b c : Nat) : Nat :=
  (fun ya => Nat.mod (Nat.add t1 (Nat.add (Nat.xor (Nat.xor (Nat.shiftRight ya 2) (Nat.shiftRight ya 13)) (Nat.shiftRight ya 22)) (Nat.lor (Nat.land a b) (Nat.land c (Nat.lor a b))))) 4294967296) (Nat.mul a 4294967297)
def wN (w0 w1 w9 w14 : Nat) : Nat :=
  (fun y1 y14 => Nat.mod (Nat.add (Nat.add (Nat.add w0 w9) (Nat.xor (Nat.xor (Nat.shiftRight y1 7) (Nat.shiftRight y1 18)) (Nat.shiftRight w1 3))) (Nat.xor (Nat.xor (Nat.shiftRight y14 17) (Nat.shiftRight y14 19)) (Nat.shiftRight w14 10))) 4294967296) (Nat.mul w1 4294967297) (Nat.mul w14 4294967297)

theorem t1_nat (s : S8) (k w : BitVec 32) : (s.mixed k w).toNat = t1N k.toNat w.toNat s.e.toNat s.f.toNat s.g.toNat s.h.toNat % 4294967296 := by
  have e : t1N k.toNat w.toNat s.e.toNat s.f.toNat s.g.toNat s.h.toNat = s.h.toNat + k.toNat + w.toNat + (s.g.toNat ^^^ (s.e.toNat &&& (s.f.toNat ^^^ s.g.toNat))) + ((s.e.toNat * 4294967297) >>> 6 ^^^ (s.e.toNat * 4294967297) >>> 11 ^^^ (s.e.toNat * 4294967297) >>> 25) := rfl
  rw [e]
  unfold S8.mixed
  simp only [BitVec.toNat_add, sum1_nat, ch_nat]
  omega
theorem a_nat (t1 : Nat) (m a b c : BitVec 32) (hm : m.toNat = t1 % 4294967296) : (m + (sum0 a + maj a b c)).toNat = aN t1 a.toNat b.toNat c.toNat := by
  have e : aN t1 a.toNat b.toNat c.toNat = (t1 + (((a.toNat * 4294967297) >>> 2 ^^^ (a.toNat * 4294967297) >>> 13 ^^^ (a.toNat * 4294967297) >>> 22) + ((a.toNat &&& b.toNat) ||| (c.toNat &&& (a.toNat ||| b.toNat))))) % 4294967296 := rfl
  rw [e]
  simp only [BitVec.toNat_add, sum0_nat, maj_nat, hm]
  omega
theorem w_nat (w0 w1 w9 w14 : BitVec 32) : (w0 + sig0 w1 + w9 + sig1 w14).toNat = wN w0.toNat w1.toNat w9.toNat w14.toNat := by
  have e : wN w0.toNat w1.toNat w9.toNat w14.toNat = (w0.toNat + w9.toNat + ((w1.toNat * 4294967297) >>> 7 ^^^ (w1.toNat * 4294967297) >>> 18 ^^^ w1.toNat >>> 3) + ((w14.toNat * 4294967297) >>> 17 ^^^ (w14.toNat * 4294967297) >>> 19 ^^^ w14.toNat >>> 10)) % 4294967296 := rfl
  rw [e]
  simp only [BitVec.toNat_add, sig0_nat, sig1_nat]
  omega

theorem getD_left {α : Type} (l m : List α) (n : Nat) (d : α) (h : n < l.length) : (l ++ m).getD n d = l.getD n d := by
  rw [List.getD_eq_getElem?_getD, List.getD_eq_getElem?_getD, List.getElem?_append_left h]
theorem getD_end {α : Type} (l : List α) (x : α) (n : Nat) (d : α) (h : n = l.length) : (l ++ [x]).getD n d = x := by
  subst h
  rw [List.getD_eq_getElem?_getD, List.getElem?_append_right (Nat.le_refl _), Nat.sub_self]
  rfl

theorem sched_pre (block : List UInt8) (t : Nat) : ∀ n m : Nat, t < n → n ≤ m → (sched block m).getD t 0 = (sched block n).getD t 0 := by
  intro n m h1 h2
  induction m with
  | zero => omega
  | succ m ih =>
    by_cases h : n = m + 1
    · rw [h]
    · rw [← ih (by omega)]
      show (sched block m ++ [_]).getD t 0 = _
      rw [getD_left _ _ _ _ (by rw [sched_length]; omega)]

theorem sched_low (block : List UInt8) (t : Nat) (h : t < 16) : (sched block 64).getD t 0 = word block t := by
  rw [sched_pre block t (t + 1) 64 (by omega) (by omega)]
  show (sched block t ++ [_]).getD t 0 = _
  rw [getD_end _ _ _ _ (by rw [sched_length]), if_pos h]

theorem sched_high (block : List UInt8) (t : Nat) (h : t + 16 < 64) : (sched block 64).getD (t + 16) 0 =
    (sched block 64).getD t 0 + sig0 ((sched block 64).getD (t + 1) 0) + (sched block 64).getD (t + 9) 0 + sig1 ((sched block 64).getD (t + 14) 0) := by
  rw [sched_pre block (t + 16) (t + 17) 64 (by omega) (by omega)]
  rw [sched_next block (t + 16) (by omega), getD_end _ _ _ _ (by rw [sched_length])]
  have e1 : t + 16 - 16 = t := by omega
  have e2 : t + 16 - 15 = t + 1 := by omega
  have e3 : t + 16 - 7 = t + 9 := by omega
  have e4 : t + 16 - 2 = t + 14 := by omega
  rw [e1, e2, e3, e4, ← sched_pre block t (t + 16) 64 (by omega) (by omega), ← sched_pre block (t + 1) (t + 16) 64 (by omega) (by omega), ← sched_pre block (t + 9) (t + 16) 64 (by omega) (by omega), ← sched_pre block (t + 14) (t + 16) 64 (by omega) (by omega)]

noncomputable def roundsN (l : List Nat) : Nat → Nat → Nat → Nat → Nat → Nat → Nat → Nat → Nat → Nat → Nat → Nat → Nat → Nat → Nat → Nat →
   Nat → Nat → Nat → Nat → Nat → Nat → Nat → Nat → (Nat → Nat → Nat → Nat → Nat → Nat → Nat → Nat → Nat) → Nat :=
  List.rec (motive := fun _ => Nat → Nat → Nat → Nat → Nat → Nat → Nat → Nat → Nat → Nat → Nat → Nat → Nat → Nat → Nat → Nat →
   Nat → Nat → Nat → Nat → Nat → Nat → Nat → Nat → (Nat → Nat → Nat → Nat → Nat → Nat → Nat → Nat → Nat) → Nat)
   (fun _ _ _ _ _ _ _ _ _ _ _ _ _ _ _ _ a b c d e f g h K => K a b c d e f g h)
   (fun k _ ih w0 w1 w2 w3 w4 w5 w6 w7 w8 w9 w10 w11 w12 w13 w14 w15 a b c d e f g h K =>
     (fun t1 => ih w1 w2 w3 w4 w5 w6 w7 w8 w9 w10 w11 w12 w13 w14 w15 (wN w0 w1 w9 w14) (aN t1 a b c) a b c (Nat.mod (Nat.add d t1) 4294967296) e f g K) (t1N k w0 e f g h))
   l

theorem roundsN_cons (k : Nat) (l : List Nat) (w0 w1 w2 w3 w4 w5 w6 w7 w8 w9 w10 w11 w12 w13 w14 w15 a b c d e f g h : Nat) (K : Nat → Nat → Nat → Nat → Nat → Nat → Nat → Nat → Nat) :
    roundsN (k :: l) w0 w1 w2 w3 w4 w5 w6 w7 w8 w9 w10 w11 w12 w13 w14 w15 a b c d e f g h K =
    roundsN l w1 w2 w3 w4 w5 w6 w7 w8 w9 w10 w11 w12 w13 w14 w15 (wN w0 w1 w9 w14) (aN (t1N k w0 e f g h) a b c) a b c (Nat.mod (Nat.add d (t1N k w0 e f g h)) 4294967296) e f g K := rfl
theorem roundsN_nil (w0 w1 w2 w3 w4 w5 w6 w7 w8 w9 w10 w11 w12 w13 w14 w15 a b c d e f g h : Nat) (K : Nat → Nat → Nat → Nat → Nat → Nat → Nat → Nat → Nat) :
    roundsN [] w0 w1 w2 w3 w4 w5 w6 w7 w8 w9 w10 w11 w12 w13 w14 w15 a b c d e f g h K = K a b c d e f g h := rfl

theorem ks_at (n : Nat) (h : n < 64) : ksN.drop n = (ks.getD n 0).toNat :: ksN.drop (n + 1) := by
  have hl2 : n < ks.length := h
  rw [ksN_eq, ← List.map_drop, ← List.map_drop, List.drop_eq_getElem_cons hl2, List.map_cons, List.getD_eq_getElem?_getD, List.getElem?_eq_getElem hl2]
  rfl

theorem rounds_nat (ws : List (BitVec 32)) (hws : ∀ t, t + 16 < 64 → ws.getD (t + 16) 0 = ws.getD t 0 + sig0 (ws.getD (t + 1) 0) + ws.getD (t + 9) 0 + sig1 (ws.getD (t + 14) 0)) (s0 F : S8) (K : Nat → Nat → Nat → Nat → Nat → Nat → Nat → Nat → Nat) :
    ∀ (m n : Nat) (s : S8) (v0 v1 v2 v3 v4 v5 v6 v7 v8 v9 v10 v11 v12 v13 v14 v15 : Nat), n + m = 64 → s = rounds ws n s0 → F = rounds ws (n + m) s0 →
    (∀ i v, [v0, v1, v2, v3, v4, v5, v6, v7, v8, v9, v10, v11, v12, v13, v14, v15][i]? = some v → n + i < 64 → v = (ws.getD (n + i) 0).toNat) →
    roundsN (ksN.drop n) v0 v1 v2 v3 v4 v5 v6 v7 v8 v9 v10 v11 v12 v13 v14 v15 s.a.toNat s.b.toNat s.c.toNat s.d.toNat s.e.toNat s.f.toNat s.g.toNat s.h.toNat K =
    K F.a.toNat F.b.toNat F.c.toNat F.d.toNat F.e.toNat F.f.toNat F.g.toNat F.h.toNat := by
  intro m
  induction m with
  | zero =>
    intro n s v0 v1 v2 v3 v4 v5 v6 v7 v8 v9 v10 v11 v12 v13 v14 v15 hn hs hF hv
    rw [Nat.add_zero, ← hs] at hF
    have hd : ksN.drop n = [] := List.drop_eq_nil_of_le (by show 64 ≤ n; omega)
    rw [hd, roundsN_nil, hF]
  | succ m ih =>
    intro n s v0 v1 v2 v3 v4 v5 v6 v7 v8 v9 v10 v11 v12 v13 v14 v15 hn hs hF hv
    have h0 := hv 0 v0 rfl (by omega)
    rw [Nat.add_zero] at h0
    rw [ks_at n (by omega), roundsN_cons]
    have hm := t1_nat s (ks.getD n 0) (ws.getD n 0)
    rw [← h0] at hm
    have e1 := a_nat (t1N (ks.getD n 0).toNat v0 s.e.toNat s.f.toNat s.g.toNat s.h.toNat) (s.mixed (ks.getD n 0) (ws.getD n 0)) s.a s.b s.c hm
    have e2 : (s.d + s.mixed (ks.getD n 0) (ws.getD n 0)).toNat = Nat.mod (Nat.add s.d.toNat (t1N (ks.getD n 0).toNat v0 s.e.toNat s.f.toNat s.g.toNat s.h.toNat)) 4294967296 := by
      rw [BitVec.toNat_add, hm]
      show _ = (s.d.toNat + _) % 4294967296
      omega
    rw [← e1, ← e2]
    refine ih (n + 1) (s.round (ks.getD n 0) (ws.getD n 0)) v1 v2 v3 v4 v5 v6 v7 v8 v9 v10 v11 v12 v13 v14 v15 (wN v0 v1 v9 v14) (by omega) (by rw [hs, ← rounds_next]) (by rw [hF]; congr 1; omega) ?_
    intro i v hi hlt
    by_cases h15 : i = 15
    · subst h15
      have hv' : wN v0 v1 v9 v14 = v := Option.some.inj hi
      rw [← hv', hv 0 v0 rfl (by omega), hv 1 v1 rfl (by omega), hv 9 v9 rfl (by omega), hv 14 v14 rfl (by omega), ← w_nat, show n + 1 + 15 = n + 16 by omega, hws n (by omega)]
      rfl
    · have h16 : i < 15 := by
        have h1 := (List.getElem?_eq_some_iff.1 hi).1
        have h2 : i < 16 := h1
        omega
      have e : [v0, v1, v2, v3, v4, v5, v6, v7, v8, v9, v10, v11, v12, v13, v14, v15][i + 1]? = some v := by
        rw [← hi]
        show [v1, v2, v3, v4, v5, v6, v7, v8, v9, v10, v11, v12, v13, v14, v15][i]? = ([v1, v2, v3, v4, v5, v6, v7, v8, v9, v10, v11, v12, v13, v14, v15] ++ [wN v0 v1 v9 v14])[i]?
        rw [List.getElem?_append_left h16]
      have := hv (i + 1) v e (by omega)
      rw [this, show n + 1 + i = n + (i + 1) by omega]

/-- The number whose bytes these are, the highest first. -/
def bn (l : List UInt8) : Nat := l.foldl (fun a b => a * 256 + b.toNat) 0

theorem bn_acc : ∀ (l : List UInt8) (a : Nat), l.foldl (fun a b => a * 256 + b.toNat) a = a * 256 ^ l.length + bn l
  | [], a => by simp [bn]
  | x :: l, a => by
    have h1 := bn_acc l (a * 256 + x.toNat)
    have h2 := bn_acc l (0 * 256 + x.toNat)
    unfold bn
    simp only [List.foldl_cons, List.length_cons, Nat.pow_succ]
    rw [h1, h2]
    simp only [Nat.zero_mul, Nat.zero_add, Nat.add_mul, Nat.mul_assoc, Nat.mul_comm 256]
    omega
theorem bn_append (l m : List UInt8) : bn (l ++ m) = bn l * 256 ^ m.length + bn m := by
  unfold bn
  rw [List.foldl_append, bn_acc m]
  rfl
theorem bn_cons (x : UInt8) (l : List UInt8) : bn (x :: l) = x.toNat * 256 ^ l.length + bn l := by
  have h := bn_append [x] l
  simpa [bn] using h
theorem bn_lt : ∀ l : List UInt8, bn l < 256 ^ l.length
  | [] => by simp [bn]
  | x :: l => by
    have h := bn_lt l
    have hx : x.toNat < 256 := x.toNat_lt
    rw [bn_cons, List.length_cons, Nat.pow_succ, Nat.mul_comm (256 ^ l.length)]
    have : x.toNat * 256 ^ l.length ≤ 255 * 256 ^ l.length := Nat.mul_le_mul_right _ (by omega)
    omega

theorem bn_cut (l : List UInt8) (k m : Nat) (h : k + m ≤ l.length) : bn ((l.drop k).take m) = bn l / 256 ^ (l.length - k - m) % 256 ^ m := by
  have e : l = l.take k ++ ((l.drop k).take m ++ l.drop (k + m)) := by
    rw [← List.drop_drop, List.take_append_drop, List.take_append_drop]
  have hB : ((l.drop k).take m).length = m := by rw [List.length_take, List.length_drop]; omega
  have hC : (l.drop (k + m)).length = l.length - k - m := by rw [List.length_drop]; omega
  have hn : bn l = (bn (l.take k) * 256 ^ m + bn ((l.drop k).take m)) * 256 ^ (l.length - k - m) + bn (l.drop (k + m)) := by
    conv => lhs; rw [e]
    rw [bn_append, bn_append, List.length_append, hB, hC, Nat.pow_add]
    rw [Nat.add_mul, Nat.mul_assoc]
    omega
  have l1 := bn_lt (l.drop (k + m))
  have l2 := bn_lt ((l.drop k).take m)
  rw [hC] at l1
  rw [hB] at l2
  rw [hn]
  generalize 256 ^ (l.length - k - m) = p at *
  have hp : 0 < p := by omega
  rw [Nat.mul_comm _ p, Nat.mul_add_div hp, Nat.div_eq_of_lt l1, Nat.add_zero, Nat.mul_comm _ (256 ^ m), Nat.mul_add_mod, Nat.mod_eq_of_lt l2]

theorem four (l : List UInt8) (k : Nat) (h : k + 4 ≤ l.length) : (l.drop k).take 4 = [l.getD k 0, l.getD (k + 1) 0, l.getD (k + 2) 0, l.getD (k + 3) 0] := by
  rw [List.drop_eq_getElem_cons (by omega), List.drop_eq_getElem_cons (by omega), List.drop_eq_getElem_cons (by omega), List.drop_eq_getElem_cons (by omega)]
  simp only [List.take_succ_cons, List.take_zero, List.getD_eq_getElem?_getD]
  rw [List.getElem?_eq_getElem (by omega), List.getElem?_eq_getElem (by omega), List.getElem?_eq_getElem (by omega), List.getElem?_eq_getElem (by omega)]
  rfl

theorem word_nat (l : List UInt8) (i : Nat) (h : 4 * i + 4 ≤ l.length) : (word l i).toNat = bn ((l.drop (4 * i)).take 4) := by
  rw [four l _ h, word_def]
  generalize l.getD (4 * i) 0 = a
  generalize l.getD (4 * i + 1) 0 = b
  generalize l.getD (4 * i + 2) 0 = c
  generalize l.getD (4 * i + 3) 0 = d
  have ha : a.toNat < 256 := a.toNat_lt
  have hb : b.toNat < 256 := b.toNat_lt
  have hc : c.toNat < 256 := c.toNat_lt
  have hd : d.toNat < 256 := d.toNat_lt
  have e : bn [a, b, c, d] = ((a.toNat * 256 + b.toNat) * 256 + c.toNat) * 256 + d.toNat := by simp [bn]
  rw [e]
  simp only [BitVec.toNat_or, BitVec.toNat_shiftLeft, BitVec.toNat_ofNat]
  have m1 : a.toNat % 2 ^ 32 = a.toNat := Nat.mod_eq_of_lt (by omega)
  have m2 : b.toNat % 2 ^ 32 = b.toNat := Nat.mod_eq_of_lt (by omega)
  have m3 : c.toNat % 2 ^ 32 = c.toNat := Nat.mod_eq_of_lt (by omega)
  have m4 : d.toNat % 2 ^ 32 = d.toNat := Nat.mod_eq_of_lt (by omega)
  rw [m1, m2, m3, m4]
  have s1 : a.toNat <<< 24 % 2 ^ 32 = a.toNat <<< 24 := Nat.mod_eq_of_lt (by rw [Nat.shiftLeft_eq]; omega)
  have s2 : b.toNat <<< 16 % 2 ^ 32 = b.toNat <<< 16 := Nat.mod_eq_of_lt (by rw [Nat.shiftLeft_eq]; omega)
  have s3 : c.toNat <<< 8 % 2 ^ 32 = c.toNat <<< 8 := Nat.mod_eq_of_lt (by rw [Nat.shiftLeft_eq]; omega)
  rw [s1, s2, s3]
  have p1 : a.toNat <<< 24 ||| b.toNat <<< 16 = (a.toNat * 256 + b.toNat) <<< 16 := by
    rw [← Nat.shiftLeft_add_eq_or_of_lt (show b.toNat <<< 16 < 2 ^ 24 by rw [Nat.shiftLeft_eq]; omega)]
    simp only [Nat.shiftLeft_eq]
    omega
  have p2 : (a.toNat * 256 + b.toNat) <<< 16 ||| c.toNat <<< 8 = ((a.toNat * 256 + b.toNat) * 256 + c.toNat) <<< 8 := by
    rw [← Nat.shiftLeft_add_eq_or_of_lt (show c.toNat <<< 8 < 2 ^ 16 by rw [Nat.shiftLeft_eq]; omega)]
    simp only [Nat.shiftLeft_eq]
    omega
  have p3 : ((a.toNat * 256 + b.toNat) * 256 + c.toNat) <<< 8 ||| d.toNat = ((a.toNat * 256 + b.toNat) * 256 + c.toNat) * 256 + d.toNat := by
    rw [← Nat.shiftLeft_add_eq_or_of_lt (show d.toNat < 2 ^ 8 by omega)]
    simp only [Nat.shiftLeft_eq]
    try omega
  rw [p1, p2, p3]

def wd (m s : Nat) : Nat := Nat.mod (Nat.shiftRight m s) 4294967296
theorem wd_eq (m s : Nat) : wd m s = m / 2 ^ s % 4294967296 := by
  show (m >>> s) % 4294967296 = _
  rw [Nat.shiftRight_eq_div_pow]

theorem wd_word (l : List UInt8) (hl : l.length = 64) (i s : Nat) (hi : i < 16) (hs : s = 480 - 32 * i) : wd (bn l) s = (word l i).toNat := by
  rw [word_nat l i (by omega), bn_cut l (4 * i) 4 (by omega), wd_eq, hl]
  have e : (256 : Nat) ^ (64 - 4 * i - 4) = 2 ^ s := by
    rw [show (256 : Nat) = 2 ^ 8 from rfl, ← Nat.pow_mul]
    congr 1
    omega
  rw [e]

def catN (a b c d e f g h : Nat) : Nat :=
  Nat.add (Nat.shiftLeft a 224) (Nat.add (Nat.shiftLeft b 192) (Nat.add (Nat.shiftLeft c 160) (Nat.add (Nat.shiftLeft d 128) (Nat.add (Nat.shiftLeft e 96) (Nat.add (Nat.shiftLeft f 64) (Nat.add (Nat.shiftLeft g 32) h))))))
theorem catN_eq (a b c d e f g h : Nat) : catN a b c d e f g h = a * 2 ^ 224 + (b * 2 ^ 192 + (c * 2 ^ 160 + (d * 2 ^ 128 + (e * 2 ^ 96 + (f * 2 ^ 64 + (g * 2 ^ 32 + h)))))) := by
  show a <<< 224 + (b <<< 192 + (c <<< 160 + (d <<< 128 + (e <<< 96 + (f <<< 64 + (g <<< 32 + h)))))) = _
  simp only [Nat.shiftLeft_eq]

def S8.bn (s : S8) : Nat := catN s.a.toNat s.b.toNat s.c.toNat s.d.toNat s.e.toNat s.f.toNat s.g.toNat s.h.toNat

theorem wd_num (s : S8) : wd s.bn 224 = s.a.toNat ∧ wd s.bn 192 = s.b.toNat ∧ wd s.bn 160 = s.c.toNat ∧ wd s.bn 128 = s.d.toNat ∧ wd s.bn 96 = s.e.toNat ∧ wd s.bn 64 = s.f.toNat ∧ wd s.bn 32 = s.g.toNat ∧ wd s.bn 0 = s.h.toNat := by
  have ha := s.a.isLt
  have hb := s.b.isLt
  have hc := s.c.isLt
  have hd := s.d.isLt
  have he := s.e.isLt
  have hf := s.f.isLt
  have hg := s.g.isLt
  have hh := s.h.isLt
  simp only [S8.bn, catN_eq, wd_eq]
  refine ⟨?_, ?_, ?_, ?_, ?_, ?_, ?_, ?_⟩ <;> omega

noncomputable def compressN (st m : Nat) : Nat :=
  roundsN ksN (wd m 480) (wd m 448) (wd m 416) (wd m 384) (wd m 352) (wd m 320) (wd m 288) (wd m 256) (wd m 224) (wd m 192) (wd m 160) (wd m 128) (wd m 96) (wd m 64) (wd m 32) (wd m 0)
    (wd st 224) (wd st 192) (wd st 160) (wd st 128) (wd st 96) (wd st 64) (wd st 32) (wd st 0)
    (fun a b c d e f g h => catN (Nat.mod (Nat.add a (wd st 224)) 4294967296) (Nat.mod (Nat.add b (wd st 192)) 4294967296) (Nat.mod (Nat.add c (wd st 160)) 4294967296) (Nat.mod (Nat.add d (wd st 128)) 4294967296)
      (Nat.mod (Nat.add e (wd st 96)) 4294967296) (Nat.mod (Nat.add f (wd st 64)) 4294967296) (Nat.mod (Nat.add g (wd st 32)) 4294967296) (Nat.mod (Nat.add h (wd st 0)) 4294967296))

theorem add_mod_nat (x y : BitVec 32) : Nat.mod (Nat.add y.toNat x.toNat) 4294967296 = (x + y).toNat := by
  rw [BitVec.toNat_add, Nat.add_comm]
  rfl

theorem compress_nat (s : S8) (l : List UInt8) (hl : l.length = 64) : (compress s l).bn = compressN s.bn (bn l) := by
  obtain ⟨n1, n2, n3, n4, n5, n6, n7, n8⟩ := wd_num s
  unfold compressN
  rw [n1, n2, n3, n4, n5, n6, n7, n8]
  obtain ⟨F, hF⟩ : ∃ F, F = rounds (sched l 64) 64 s := ⟨_, rfl⟩
  have h := rounds_nat (sched l 64) (sched_high l) s F (fun a b c d e f g h => catN (Nat.mod (Nat.add a s.a.toNat) 4294967296) (Nat.mod (Nat.add b s.b.toNat) 4294967296) (Nat.mod (Nat.add c s.c.toNat) 4294967296) (Nat.mod (Nat.add d s.d.toNat) 4294967296)
      (Nat.mod (Nat.add e s.e.toNat) 4294967296) (Nat.mod (Nat.add f s.f.toNat) 4294967296) (Nat.mod (Nat.add g s.g.toNat) 4294967296) (Nat.mod (Nat.add h s.h.toNat) 4294967296)) 64 0 s
    (wd (bn l) 480) (wd (bn l) 448) (wd (bn l) 416) (wd (bn l) 384) (wd (bn l) 352) (wd (bn l) 320) (wd (bn l) 288) (wd (bn l) 256) (wd (bn l) 224) (wd (bn l) 192) (wd (bn l) 160) (wd (bn l) 128) (wd (bn l) 96) (wd (bn l) 64) (wd (bn l) 32) (wd (bn l) 0)
    rfl rfl (by rw [Nat.zero_add]; exact hF) (by
      intro i v hi hlt
      have hi16 : i < 16 := (List.getElem?_eq_some_iff.1 hi).1
      rw [Nat.zero_add, sched_low l i hi16, ← wd_word l hl i (480 - 32 * i) hi16 rfl]
      have hc : i = 0 ∨ i = 1 ∨ i = 2 ∨ i = 3 ∨ i = 4 ∨ i = 5 ∨ i = 6 ∨ i = 7 ∨ i = 8 ∨ i = 9 ∨ i = 10 ∨ i = 11 ∨ i = 12 ∨ i = 13 ∨ i = 14 ∨ i = 15 := by omega
      rcases hc with rfl | rfl | rfl | rfl | rfl | rfl | rfl | rfl | rfl | rfl | rfl | rfl | rfl | rfl | rfl | rfl <;> exact (Option.some.inj hi).symm)
  rw [List.drop_zero] at h
  rw [h]
  simp only [add_mod_nat]
  rw [hF]
  rfl

def iv : Nat := 0x6a09e667bb67ae853c6ef372a54ff53a510e527f9b05688c1f83d9ab5be0cd19
noncomputable def blocksN (M n k : Nat) : Nat :=
  Nat.rec iv (fun k ih => compressN ih (Nat.mod (Nat.shiftRight M (Nat.mul 512 (Nat.sub (Nat.sub n 1) k))) 13407807929942597099574024998205846127479365820592393377723561443721764030073546976801874298166903427690031858186486050853753882811946569946433649006084096)) k

theorem blocks_nat (l : List UInt8) (n : Nat) (hl : l.length = 64 * n) : ∀ k, k ≤ n → (blocks l k).bn = blocksN (bn l) n k
  | 0, _ => by
    show S8.first.bn = iv
    decide +kernel
  | k + 1, hk => by
    have ih := blocks_nat l n hl k (by omega)
    have hb : ((l.drop (64 * k)).take 64).length = 64 := by rw [List.length_take, List.length_drop]; omega
    show (compress (blocks l k) ((l.drop (64 * k)).take 64)).bn = compressN (blocksN (bn l) n k) _
    rw [compress_nat _ _ hb, ih, bn_cut l (64 * k) 64 (by omega), hl]
    congr 1
    show _ = (bn l >>> (512 * (n - 1 - k))) % _
    rw [Nat.shiftRight_eq_div_pow]
    have e : (256 : Nat) ^ (64 * n - 64 * k - 64) = 2 ^ (512 * (n - 1 - k)) := by
      rw [show (256 : Nat) = 2 ^ 8 from rfl, ← Nat.pow_mul]
      congr 1
      omega
    rw [e]

theorem be_num : ∀ (n x : Nat), bn (be n x) = x % 256 ^ n
  | 0, x => by simp [be, bn, Nat.mod_one]
  | n + 1, x => by
    have ih := be_num n x
    have e : be (n + 1) x = UInt8.ofNat (x / 256 ^ n) :: be n x := by
      unfold be
      rw [List.range_succ_eq_map, List.map_cons, List.map_map]
      congr 1
      apply List.map_congr_left
      intro i hi
      have := List.mem_range.1 hi
      show UInt8.ofNat (x / 256 ^ (n + 1 - 1 - (i + 1))) = UInt8.ofNat (x / 256 ^ (n - 1 - i))
      rw [show n + 1 - 1 - (i + 1) = n - 1 - i by omega]
    have hlen : (be n x).length = n := by simp [be]
    rw [e, bn_cons, ih, hlen]
    have h1 : (UInt8.ofNat (x / 256 ^ n)).toNat = x / 256 ^ n % 256 := by simp
    rw [h1, Nat.pow_succ, Nat.mod_mul]
    rw [Nat.mul_comm]
    omega

theorem bytes_nat (s : S8) : bn s.bytes = s.bn := by
  have hl : ∀ x : BitVec 32, (bytes x).length = 4 := fun x => by simp [bytes, be]
  have hn : ∀ x : BitVec 32, bn (bytes x) = x.toNat := fun x => by
    rw [bytes, be_num]
    exact Nat.mod_eq_of_lt x.isLt
  simp only [S8.bytes, bn_append, hl, hn, S8.bn, catN_eq]
  omega

/-- The digest of a text of so many bytes that are this number. -/
noncomputable def shaN (x len : Nat) : Nat :=
  (fun z => (fun n => blocksN (Nat.add (Nat.mul (Nat.add (Nat.mul x 256) 128) (Nat.pow 256 (Nat.add z 8))) (Nat.mul 8 len)) n n) (Nat.div (Nat.add (Nat.add (Nat.add len 1) z) 8) 64)) (Nat.mod (Nat.sub 120 (Nat.mod (Nat.add len 1) 64)) 64)

theorem sha_num (l : List UInt8) (h : l.length < 1000000000000000) : bn (sha l) = shaN (bn l) l.length := by
  obtain ⟨z, hz⟩ : ∃ z, (120 - (l.length + 1) % 64) % 64 = z := ⟨_, rfl⟩
  obtain ⟨n, hn⟩ : ∃ n, (l.length + 1 + z + 8) / 64 = n := ⟨_, rfl⟩
  have hb8 : (be 8 (8 * l.length)).length = 8 := by simp [be]
  have hpl : (pad l).length = 64 * n := by
    unfold pad
    rw [hz]
    simp only [List.length_append, List.length_replicate, hb8, List.length_singleton]
    omega
  have hrep : ∀ k, bn (List.replicate k 0) = 0 := by
    intro k
    induction k with
    | zero => rfl
    | succ k ih => rw [List.replicate_succ, bn_cons, ih]; simp
  have hpn : bn (pad l) = (bn l * 256 + 128) * 256 ^ (z + 8) + 8 * l.length := by
    unfold pad
    rw [hz, bn_append, bn_append, bn_append, hrep, be_num, hb8, List.length_replicate, Nat.mod_eq_of_lt (by omega)]
    have e1 : bn [(0x80 : UInt8)] = 128 := rfl
    rw [e1, List.length_singleton, Nat.pow_add]
    simp only [Nat.pow_one, Nat.add_zero, Nat.mul_assoc]
  have e : shaN (bn l) l.length = blocksN ((bn l * 256 + 128) * 256 ^ (z + 8) + 8 * l.length) n n := by
    subst hn hz
    rfl
  rw [e, ← hpn, sha, bytes_nat, hpl, Nat.mul_div_cancel_left _ (by decide)]
  exact blocks_nat (pad l) n hpl n (Nat.le_refl _)
end Go.Proofs.Ytpjfhbmegabafaa.Sha
