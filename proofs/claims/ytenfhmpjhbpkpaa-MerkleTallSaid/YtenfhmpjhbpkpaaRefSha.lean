/- The reference's SHA-256: rot. -/
import Derived.Test.YtenfhmpjhbpkpaaShaOps
import Derived.Deep.Quiet
namespace Go.Proofs.Ytenfhmpjhbpkpaa
open Go.RowKit
attribute [local go_sem] u_add u_wrap_add u_or u_and u_xor

set_option maxHeartbeats 400000 in
theorem rot_any (x : BitVec 32) (k : Int) (hk : 1 ≤ k) (hk' : k ≤ 31) (w : World) :
    Calls Try.prog 61 #[.int .u32 (u x), .int .i64 k] w fun e w' => e = .returned (.int .u32 (u (Sha.rot x k.toNat))) ∧ ∃ m, w' = w.drewN m := by
  obtain ⟨k, rfl⟩ : ∃ n : Nat, k = n := ⟨k.toNat, by omega⟩
  have s1 := IntWalk.i64_in (32 - (k : Int)) (by omega)
  have s2 : (32 - (k : Int)).toNat = 32 - k := by omega
  have s3 : 0 ≤ 32 - (k : Int) := by omega
  go_enter Try.func61, Try.ntmps61
  go_wp2_with fail
  go_quiet (fail)
  go_wp2
  go_ret
  exact ⟨ru (by rw [u_shr, u_shl, u_or]; rfl), _, rfl⟩

end Go.Proofs.Ytenfhmpjhbpkpaa
