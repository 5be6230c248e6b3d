/- Numbers cut to some bits, to a rest. No function of the program is named here. -/
import Derived.Test.YtmgaegaibglnhaaGreatWords
import Derived.IntWalk
namespace Go.Proofs.YtmgaegaibglnhaaGreat
open Go.RowKit

theorem and_mask (x : Int) (j : Nat) (hj : j ≤ 62) (m : Int) (hm : m = ((2 ^ j - 1 : Nat) : Int)) : ∃ k : Nat, k < 2 ^ j ∧ bits .and .i64 x m = (k : Int) ∧ (k : Int) = x % ((2 ^ j : Nat) : Int) := by
  subst hm
  have hp : 2 ^ j ≤ 2 ^ 62 := Nat.pow_le_pow_right (by decide) hj
  have hp0 : 0 < 2 ^ j := Nat.pow_pos (by decide)
  have hd : ∃ c, 2 ^ 64 = 2 ^ j * c := ⟨2 ^ (64 - j), by rw [← Nat.pow_add]; congr 1; omega⟩
  obtain ⟨c, hc⟩ := hd
  have e1 : (BitVec.ofInt 64 x &&& BitVec.ofInt 64 ((2 ^ j - 1 : Nat) : Int)).toNat = (x % ((2 ^ j : Nat) : Int)).toNat := by
    rw [BitVec.ofInt_natCast, BitVec.toNat_and, BitVec.toNat_ofNat, Nat.mod_eq_of_lt (by omega), Nat.and_two_pow_sub_one_eq_mod, BitVec.toNat_ofInt]
    have h1 : 0 ≤ x % ((2 ^ 64 : Nat) : Int) := Int.emod_nonneg _ (by decide)
    have h2 : (x % ((2 ^ 64 : Nat) : Int)) % ((2 ^ j : Nat) : Int) = x % ((2 ^ j : Nat) : Int) := by
      rw [hc]
      exact Int.emod_emod_of_dvd x ⟨(c : Int), by rw [Int.natCast_mul]⟩
    have h3 : (((x % ((2 ^ 64 : Nat) : Int)).toNat % 2 ^ j : Nat) : Int) = x % ((2 ^ j : Nat) : Int) := by
      rw [Int.natCast_emod, Int.toNat_of_nonneg h1, h2]
    have h4 : 0 ≤ x % ((2 ^ j : Nat) : Int) := Int.emod_nonneg _ (by omega)
    omega
  have h4 : 0 ≤ x % ((2 ^ j : Nat) : Int) := Int.emod_nonneg _ (by omega)
  have h5 : x % ((2 ^ j : Nat) : Int) < ((2 ^ j : Nat) : Int) := Int.emod_lt_of_pos _ (by omega)
  refine ⟨(x % ((2 ^ j : Nat) : Int)).toNat, by omega, ?_, by omega⟩
  show IntKind.i64.wrap ((BitVec.ofInt 64 x &&& BitVec.ofInt 64 ((2 ^ j - 1 : Nat) : Int)).toNat : Int) = _
  rw [e1]
  exact IntWalk.i64_in _ (by omega)

theorem u_rem (i : Int) (n : Nat) (h : 1 ≤ n) (hn : n ≤ 1000) : ∃ a : Nat, a < n ∧ (IntKind.u64.wrap i).tmod (n : Int) = (a : Int) := by
  obtain ⟨x, hx⟩ : ∃ x : Nat, IntKind.u64.wrap i = x := ⟨(IntKind.u64.wrap i).toNat, by have e : IntKind.u64.wrap i = i % 18446744073709551616 := rfl; rw [e]; have := Int.emod_nonneg i (show (18446744073709551616 : Int) ≠ 0 by decide); omega⟩
  rw [hx, Int.tmod_eq_emod_of_nonneg (by omega)]
  exact ⟨x % n, Nat.mod_lt _ (by omega), by omega⟩

end Go.Proofs.YtmgaegaibglnhaaGreat
