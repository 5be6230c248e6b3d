/- The small functions of SHA-256. -/
import Derived.Test.YtmgaegaibglnhaaGreatRows
import Derived.Test.YtmgaegaibglnhaaGreatWords
import Derived.Test.YtmgaegaibglnhaaGreatSha
namespace Go.Proofs.YtmgaegaibglnhaaGreat
open Go.RowKit

/-- A word as the number that Go holds. -/
def u (x : BitVec 32) : Int := (x.toNat : Int)

theorem u_bd (x : BitVec 32) : 0 ≤ u x ∧ u x ≤ 4294967295 := by
  unfold u
  have := x.isLt
  omega

theorem ofInt_u (x : BitVec 32) : BitVec.ofInt 32 (u x) = x := by
  unfold u
  rw [BitVec.ofInt_natCast]
  simp

theorem u_shr (x : BitVec 32) (k : Nat) : u x / 2 ^ k = u (x >>> k) := by
  unfold u
  rw [BitVec.toNat_ushiftRight, Nat.shiftRight_eq_div_pow, Int.natCast_ediv, Int.natCast_pow]
  rfl

theorem u_shl (x : BitVec 32) (k : Nat) : u x * 2 ^ k % 4294967296 = u (x <<< k) := by
  unfold u
  rw [BitVec.toNat_shiftLeft, Nat.shiftLeft_eq, Int.natCast_emod, Int.natCast_mul, Int.natCast_pow]
  rfl

theorem wrap_u (x : BitVec 32) : IntKind.u32.wrap (x.toNat : Int) = u x := by
  have h := x.isLt
  have e : IntKind.u32.wrap (x.toNat : Int) = (x.toNat : Int) % 4294967296 := rfl
  rw [e]
  unfold u
  omega

theorem u_or (x y : BitVec 32) : bits .or .u32 (u x) (u y) = u (x ||| y) := by
  show IntKind.u32.wrap ((BitVec.ofInt 32 (u x) ||| BitVec.ofInt 32 (u y)).toNat : Int) = _
  rw [ofInt_u, ofInt_u, wrap_u]

theorem u_and (x y : BitVec 32) : bits .and .u32 (u x) (u y) = u (x &&& y) := by
  show IntKind.u32.wrap ((BitVec.ofInt 32 (u x) &&& BitVec.ofInt 32 (u y)).toNat : Int) = _
  rw [ofInt_u, ofInt_u, wrap_u]

theorem u_xor (x y : BitVec 32) : bits .xor .u32 (u x) (u y) = u (x ^^^ y) := by
  show IntKind.u32.wrap ((BitVec.ofInt 32 (u x) ^^^ BitVec.ofInt 32 (u y)).toNat : Int) = _
  rw [ofInt_u, ofInt_u, wrap_u]

theorem u_add (x y : BitVec 32) : (u x + u y) % 4294967296 = u (x + y) := by
  unfold u
  rw [BitVec.toNat_add, Int.natCast_emod, Int.natCast_add]
  rfl

theorem u_wrap_add (x y : BitVec 32) : IntKind.u32.wrap (u x + u y) = u (x + y) := by
  rw [← u_add]
  rfl

theorem ru {x y : Int} (h : x = y) : Ending.returned (.int .u32 x) = Ending.returned (.int .u32 y) := by rw [h]

theorem turn_any (x : BitVec 32) (k : Int) (hk : 1 ≤ k) (hk' : k ≤ 31) (w : World) :
    Calls Tryz.prog 261 #[.int .u32 (u x), .int .u64 k] w fun e w' => e = .returned (.int .u32 (u (Sha.rot x k.toNat))) ∧ w' = w := by
  obtain ⟨k, rfl⟩ : ∃ n : Nat, k = n := ⟨k.toNat, by omega⟩
  go_enter Tryz.func261, Tryz.ntmps261
  go_wp2
  go_ret
  exact ⟨ru (by rw [u_shr, u_shl, u_or]; rfl), rfl⟩

theorem stir_any (x : BitVec 32) (a b c : Int) (ha : 1 ≤ a) (ha' : a ≤ 31) (hb : 1 ≤ b) (hb' : b ≤ 31) (hc : 1 ≤ c) (hc' : c ≤ 31) (w : World) :
    Calls Tryz.prog 262 #[.int .u32 (u x), .int .u64 a, .int .u64 b, .int .u64 c] w fun e w' => e = .returned (.int .u32 (u (Sha.rot x a.toNat ^^^ Sha.rot x b.toNat ^^^ Sha.rot x c.toNat))) ∧ w' = w := by
  go_enter Tryz.func262, Tryz.ntmps262
  go_wp2_with (go_at_call 261; refine (turn_any _ _ (by omega) (by omega) _).mono ?_; rintro e w' ⟨rfl, rfl⟩)
  go_ret
  exact ⟨ru (by rw [u_xor, u_xor]), rfl⟩

theorem spread_any (x : BitVec 32) (a b c : Int) (ha : 1 ≤ a) (ha' : a ≤ 31) (hb : 1 ≤ b) (hb' : b ≤ 31) (hc : 1 ≤ c) (hc' : c ≤ 31) (w : World) :
    Calls Tryz.prog 248 #[.int .u32 (u x), .int .u64 a, .int .u64 b, .int .u64 c] w fun e w' => e = .returned (.int .u32 (u (Sha.rot x a.toNat ^^^ Sha.rot x b.toNat ^^^ x >>> c.toNat))) ∧ w' = w := by
  obtain ⟨c, rfl⟩ : ∃ n : Nat, c = n := ⟨c.toNat, by omega⟩
  go_enter Tryz.func248, Tryz.ntmps248
  go_wp2_with (go_at_call 261; refine (turn_any _ _ (by omega) (by omega) _).mono ?_; rintro e w' ⟨rfl, rfl⟩)
  go_ret
  exact ⟨ru (by rw [u_shr, u_xor, u_xor]; rfl), rfl⟩

theorem lower_word (e f g : BitVec 32) (w : World) :
    Calls Tryz.prog 249 #[.int .u32 (u e), .int .u32 (u f), .int .u32 (u g)] w fun r w' => r = .returned (.int .u32 (u (Sha.sum1 e + Sha.ch e f g))) ∧ w' = w := by
  go_enter Tryz.func249, Tryz.ntmps249
  go_wp2_with (go_at_call 262; refine (stir_any _ _ _ _ (by omega) (by omega) (by omega) (by omega) (by omega) (by omega) _).mono ?_; rintro e w' ⟨rfl, rfl⟩)
  go_ret
  refine ⟨ru ?_, rfl⟩
  rw [u_xor, u_and, u_xor, u_add, Sha.ch_alt]
  rfl

theorem upper_word (a b c : BitVec 32) (w : World) :
    Calls Tryz.prog 250 #[.int .u32 (u a), .int .u32 (u b), .int .u32 (u c)] w fun r w' => r = .returned (.int .u32 (u (Sha.sum0 a + Sha.maj a b c))) ∧ w' = w := by
  go_enter Tryz.func250, Tryz.ntmps250
  go_wp2_with (go_at_call 262; refine (stir_any _ _ _ _ (by omega) (by omega) (by omega) (by omega) (by omega) (by omega) _).mono ?_; rintro e w' ⟨rfl, rfl⟩)
  go_ret
  refine ⟨ru ?_, rfl⟩
  rw [u_or, u_and, u_and, u_or, u_add, Sha.maj_alt]
  rfl

theorem sig0_any (x : BitVec 32) (w : World) : Calls Tryz.prog 248 #[.int .u32 (u x), .int .u64 7, .int .u64 18, .int .u64 3] w fun e w' => e = .returned (.int .u32 (u (Sha.sig0 x))) ∧ w' = w :=
  spread_any x 7 18 3 (by omega) (by omega) (by omega) (by omega) (by omega) (by omega) w

theorem sig1_any (x : BitVec 32) (w : World) : Calls Tryz.prog 248 #[.int .u32 (u x), .int .u64 17, .int .u64 19, .int .u64 10] w fun e w' => e = .returned (.int .u32 (u (Sha.sig1 x))) ∧ w' = w :=
  spread_any x 17 19 10 (by omega) (by omega) (by omega) (by omega) (by omega) (by omega) w

end Go.Proofs.YtmgaegaibglnhaaGreat
