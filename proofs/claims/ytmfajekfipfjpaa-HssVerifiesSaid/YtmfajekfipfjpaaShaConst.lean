/- The small functions of SHA-256.
   One block of SHA-256, as the program works it in. -/
import Derived.Test.YtmfajekfipfjpaaRows
import Derived.Test.YtmfajekfipfjpaaWords
import Derived.Test.YtmfajekfipfjpaaShaText
import Derived.Test.YtmfajekfipfjpaaBlock
namespace Go.Proofs.Ytmfajekfipfjpaa
open Go.RowKit

/-- A word as the number that Go holds. -/
def u (x : BitVec 32) : Int := (x.toNat : Int)

theorem ofInt_u (x : BitVec 32) : BitVec.ofInt 32 (u x) = x := by
  unfold u
  rw [BitVec.ofInt_natCast]
  simp

theorem u_shr (x : BitVec 32) (k : Nat) : u x / 2 ^ k = u (x >>> k) := by
  unfold u
  rw [BitVec.toNat_ushiftRight, Nat.shiftRight_eq_div_pow, Int.natCast_ediv, Int.natCast_pow]
  rfl

theorem u_shl (x : BitVec 32) (k : Nat) : u x * 2 ^ k % 4294967296 = u (x <<< k) := by
  unfold u
  rw [BitVec.toNat_shiftLeft, Nat.shiftLeft_eq, Int.natCast_emod, Int.natCast_mul, Int.natCast_pow]
  rfl

theorem wrap_u (x : BitVec 32) : IntKind.u32.wrap (x.toNat : Int) = u x := by
  have h := x.isLt
  have e : IntKind.u32.wrap (x.toNat : Int) = (x.toNat : Int) % 4294967296 := rfl
  rw [e]
  unfold u
  omega

theorem u_or (x y : BitVec 32) : bits .or .u32 (u x) (u y) = u (x ||| y) := by
  show IntKind.u32.wrap ((BitVec.ofInt 32 (u x) ||| BitVec.ofInt 32 (u y)).toNat : Int) = _
  rw [ofInt_u, ofInt_u, wrap_u]

theorem u_and (x y : BitVec 32) : bits .and .u32 (u x) (u y) = u (x &&& y) := by
  show IntKind.u32.wrap ((BitVec.ofInt 32 (u x) &&& BitVec.ofInt 32 (u y)).toNat : Int) = _
  rw [ofInt_u, ofInt_u, wrap_u]

theorem u_xor (x y : BitVec 32) : bits .xor .u32 (u x) (u y) = u (x ^^^ y) := by
  show IntKind.u32.wrap ((BitVec.ofInt 32 (u x) ^^^ BitVec.ofInt 32 (u y)).toNat : Int) = _
  rw [ofInt_u, ofInt_u, wrap_u]

theorem u_add (x y : BitVec 32) : (u x + u y) % 4294967296 = u (x + y) := by
  unfold u
  rw [BitVec.toNat_add, Int.natCast_emod, Int.natCast_add]
  rfl

theorem u_wrap_add (x y : BitVec 32) : IntKind.u32.wrap (u x + u y) = u (x + y) := by
  rw [← u_add]
  rfl

theorem ru {x y : Int} (h : x = y) : Ending.returned (.int .u32 x) = Ending.returned (.int .u32 y) := by rw [h]

theorem turn_any (x : BitVec 32) (k : Int) (hk : 1 ≤ k) (hk' : k ≤ 31) (w : World) :
    Calls Try.prog 108 #[.int .u32 (u x), .int .u64 k] w fun e w' => e = .returned (.int .u32 (u (Sha.rot x k.toNat))) ∧ w' = w := by
  obtain ⟨k, rfl⟩ : ∃ n : Nat, k = n := ⟨k.toNat, by omega⟩
  go_enter Try.func108, Try.ntmps108
  go_wp2
  go_ret
  exact ⟨ru (by rw [u_shr, u_shl, u_or]; rfl), rfl⟩

theorem stir_any (x : BitVec 32) (a b c : Int) (ha : 1 ≤ a) (ha' : a ≤ 31) (hb : 1 ≤ b) (hb' : b ≤ 31) (hc : 1 ≤ c) (hc' : c ≤ 31) (w : World) :
    Calls Try.prog 109 #[.int .u32 (u x), .int .u64 a, .int .u64 b, .int .u64 c] w fun e w' => e = .returned (.int .u32 (u (Sha.rot x a.toNat ^^^ Sha.rot x b.toNat ^^^ Sha.rot x c.toNat))) ∧ w' = w := by
  go_enter Try.func109, Try.ntmps109
  go_wp2_with (go_at_call 108; refine (turn_any _ _ (by omega) (by omega) _).mono ?_; rintro e w' ⟨rfl, rfl⟩)
  go_ret
  exact ⟨ru (by rw [u_xor, u_xor]), rfl⟩

theorem spread_any (x : BitVec 32) (a b c : Int) (ha : 1 ≤ a) (ha' : a ≤ 31) (hb : 1 ≤ b) (hb' : b ≤ 31) (hc : 1 ≤ c) (hc' : c ≤ 31) (w : World) :
    Calls Try.prog 102 #[.int .u32 (u x), .int .u64 a, .int .u64 b, .int .u64 c] w fun e w' => e = .returned (.int .u32 (u (Sha.rot x a.toNat ^^^ Sha.rot x b.toNat ^^^ x >>> c.toNat))) ∧ w' = w := by
  obtain ⟨c, rfl⟩ : ∃ n : Nat, c = n := ⟨c.toNat, by omega⟩
  go_enter Try.func102, Try.ntmps102
  go_wp2_with (go_at_call 108; refine (turn_any _ _ (by omega) (by omega) _).mono ?_; rintro e w' ⟨rfl, rfl⟩)
  go_ret
  exact ⟨ru (by rw [u_shr, u_xor, u_xor]; rfl), rfl⟩

theorem lower_word (e f g : BitVec 32) (w : World) :
    Calls Try.prog 103 #[.int .u32 (u e), .int .u32 (u f), .int .u32 (u g)] w fun r w' => r = .returned (.int .u32 (u (Sha.sum1 e + Sha.ch e f g))) ∧ w' = w := by
  go_enter Try.func103, Try.ntmps103
  go_wp2_with (go_at_call 109; refine (stir_any _ _ _ _ (by omega) (by omega) (by omega) (by omega) (by omega) (by omega) _).mono ?_; rintro e w' ⟨rfl, rfl⟩)
  go_ret
  refine ⟨ru ?_, rfl⟩
  rw [u_xor, u_and, u_xor, u_add, Sha.ch_alt]
  rfl

theorem upper_word (a b c : BitVec 32) (w : World) :
    Calls Try.prog 104 #[.int .u32 (u a), .int .u32 (u b), .int .u32 (u c)] w fun r w' => r = .returned (.int .u32 (u (Sha.sum0 a + Sha.maj a b c))) ∧ w' = w := by
  go_enter Try.func104, Try.ntmps104
  go_wp2_with (go_at_call 109; refine (stir_any _ _ _ _ (by omega) (by omega) (by omega) (by omega) (by omega) (by omega) _).mono ?_; rintro e w' ⟨rfl, rfl⟩)
  go_ret
  refine ⟨ru ?_, rfl⟩
  rw [u_or, u_and, u_and, u_or, u_add, Sha.maj_alt]
  rfl

theorem sig0_any (x : BitVec 32) (w : World) : Calls Try.prog 102 #[.int .u32 (u x), .int .u64 7, .int .u64 18, .int .u64 3] w fun e w' => e = .returned (.int .u32 (u (Sha.sig0 x))) ∧ w' = w :=
  spread_any x 7 18 3 (by omega) (by omega) (by omega) (by omega) (by omega) (by omega) w

theorem sig1_any (x : BitVec 32) (w : World) : Calls Try.prog 102 #[.int .u32 (u x), .int .u64 17, .int .u64 19, .int .u64 10] w fun e w' => e = .returned (.int .u32 (u (Sha.sig1 x))) ∧ w' = w :=
  spread_any x 17 19 10 (by omega) (by omega) (by omega) (by omega) (by omega) (by omega) w

end Go.Proofs.Ytmfajekfipfjpaa
namespace Go.Proofs.Ytmfajekfipfjpaa
open Go.RowKit

/-- A byte as the number that Go holds. -/
def ub (b : UInt8) : Int := u (BitVec.ofNat 32 b.toNat)

theorem ub_bd (b : UInt8) : 0 ≤ ub b ∧ ub b ≤ 255 := by
  unfold ub u
  have := b.toNat_lt
  rw [BitVec.toNat_ofNat]
  omega

/-- The cells of a Digest: eight words, 64 bytes, a number. -/
def digCells (s : Sha.S8) (rest : List UInt8) (n : Int) : List Value :=
  [.int .u32 (u s.a), .int .u32 (u s.b), .int .u32 (u s.c), .int .u32 (u s.d), .int .u32 (u s.e), .int .u32 (u s.f), .int .u32 (u s.g), .int .u32 (u s.h)] ++ (rest.map fun b => .int .u8 (ub b)) ++ [.int .i64 n]

def wordCells (ws : List (BitVec 32)) : List Value := ws.map fun x => .int .u32 (u x)

/-- The table, as a value. -/
def ksAgg : Value := .agg (wordCells Sha.ks).toArray

theorem ks_length : (wordCells Sha.ks).toArray.size = 64 := by decide

theorem wordCells_one (ws : List (BitVec 32)) : ∀ v ∈ wordCells ws, v.oneCell' = true := by
  intro v hv
  obtain ⟨x, _, rfl⟩ := List.mem_map.1 hv
  rfl

theorem Try.sizeKs : (Try.prog.info? 155).map (·.size) = some 64 := by kernel_rfl

set_option maxRecDepth 100000 in
set_option maxHeartbeats 1000000 in
theorem constants_any (w : World) : Calls Try.prog 101 #[] w fun e w' => e = .returned ksAgg ∧ Below w.heap.size w w' := by
  go_enter Try.func101, Try.ntmps101
  go_wp2_with (refine wpList_store_mid rfl 155 (.tmp 0) (.tmp 1) rfl w.heap.size 0 (wordCells Sha.ks).toArray rfl rfl ?_ ?_ ?_ ?_)
  · rw [ks_length]
    exact (Holds.new _ _ _).there 0 64 (by decide)
  · rw [ks_length]
    exact Try.sizeKs
  · exact all_oneCell_toArray (wordCells_one _)
  · have h0 := Holds.put (Holds.new w 155 (Array.replicate 64 (.int .u32 0))) 0 (wordCells Sha.ks) (by decide)
    rw [put_all _ _ (by decide)] at h0
    refine bodyPost_ret (v := ksAgg) ?_ rfl ⟨rfl, below_setCells ((Below.refl _ _).alloc (Nat.le_refl _) _) _ _ _ (Nat.le_refl _)⟩
    exact results_cell_row rfl _ _ w.heap.size 155 (wordCells Sha.ks).toArray (0, 0) _ rfl h0 Try.underlying155 rfl (by rw [ks_length]; exact Try.sizeKs)

end Go.Proofs.Ytmfajekfipfjpaa
