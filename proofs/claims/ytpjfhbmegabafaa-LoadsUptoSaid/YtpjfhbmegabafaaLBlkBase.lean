/- More words on memory: whole arrays in composite literals. No function of the program is named here.
   A struct's literal one of whose parts is an array that is not written out. No function of the program is named here.
   What a byte's type is.
   The document's own answers: a number's bytes; which numbers fit.
   The small functions of SHA-256.
   One block of SHA-256, as the program works it in.
   The reference's SHA-256: rot.
   The regions of the reference's block256, one by one. Made by tools/regions.py. -/
import Derived.Test.YtpjfhbmegabafaaLApFr
import Derived.Test.YtpjfhbmegabafaaRows
import Derived.Laws.MakeOwn
import Derived.IntWalk
import Derived.Test.YtpjfhbmegabafaaLShaText
import Derived.Test.YtpjfhbmegabafaaLBlock
import Derived.Deep.Quiet
namespace Go.Proofs.Ytpjfhbmegabafaa
open Go.RowKit
open Go.Lib (strCells strCells_length strCells_oneCell)

theorem foldl_place (l : List Value) (o : Nat) (Z : Array Value) (h : o + l.length ≤ Z.size) :
    (l.zipIdx o).foldl (fun cs p => cs.setIfInBounds p.2 p.1) Z = (put Z.toList o l).toArray := by
  induction l generalizing o Z with
  | nil => simp [put]
  | cons v l ih =>
    have h' : o + (l.length + 1) ≤ Z.size := h
    rw [List.zipIdx_cons, List.foldl_cons, ih (o + 1) _ (by rw [Array.size_setIfInBounds]; omega), Array.toList_setIfInBounds, put_cons _ _ _ _ (by rw [Array.length_toList]; omega)]

section
variable {P : Program} {ops : Array Oper} {o : Oper} {a : Act} {w : World} {Q : Exit → Act → World → Prop}

/-- A slice literal of one array (or struct) whose cells are not written out. -/
theorem run_buildSlice_one (t e : TypeId) (i : TypeInfo) (z : Value) (ht : P.underlying t = some (.slice e)) (hi : P.info? e = some i) (hz : i.zero = some z) (H : Array Value) (hn : i.size = H.size) (h0 : 0 < H.size) (h1 : H.size ≤ 1000000) :
    (Instr.buildSlice t 1 #[(0, .agg H)]).run P w = .ok (.slice (some ⟨w.heap.size, 0, none⟩) 1 1) (w.alloc (.cells H e)) := by
  have hsz : ((Array.range (1 * i.size)).map (fun x => z.cells[x % z.cells.size]!)).size = H.size := by simp [hn]
  have hf : Instr.fill (fun j => some (j * i.size, i.size)) ((Array.range (1 * i.size)).map (fun x => z.cells[x % z.cells.size]!)) [(0, Value.agg H)] = some H := by
    have hc : (Value.agg H).cells = H := rfl
    simp only [Instr.fill, hc, hn, Nat.zero_mul, Nat.zero_add]
    rw [if_neg]
    · congr 1
      rw [← Array.foldl_toList, Array.toList_zipIdx]
      have := foldl_place H.toList 0 ((Array.range (1 * H.size)).map (fun x => z.cells[x % z.cells.size]!)) (by simp)
      rw [this, put_all _ _ (by simp)]
    · simp
  have hb1 : ¬ 16777216 < H.size := by omega
  have hb0 : ¬ H.size = 0 := by omega
  unfold Instr.buildSlice
  simp [run_underlying ht, sizeOf, typeInfo, hi, hn, hb1, hb0, zeroValue, hz, newRow]
  simp [hn] at hf
  simp [hf]

/-- A new variable of an array (or struct) type: its zeros are not written out. -/
theorem wpList_alloc_row {rest : List Oper} (hgd : o.guard = none) (t : TypeId) (ho : o.op = .alloc t) (i : TypeInfo) (z : Value) (hi : P.info? t = some i) (hz : i.zero = some z) (cs : Array Value) (hcs : z.cells = cs)
    (h : wpList P ops Q rest (a.put o.dst (.pointer (some ⟨w.heap.size, 0, none⟩))) (w.alloc (.cells cs t))) : wpList P ops Q (o :: rest) a w :=
  wpList_run hgd _ _ (by
    unfold execOp
    simp only [ho]
    simp [Instr.alloc, zeroValue, typeInfo, hi, hz, newVar, newRow, hcs]) h
end

end Go.Proofs.Ytpjfhbmegabafaa
namespace Go.Proofs.Ytpjfhbmegabafaa
open Go.RowKit

theorem place_list (o : Nat) (l : List Value) (k : Nat) (Z : Array Value) : (l.zipIdx k).foldl (fun cs p => cs.setIfInBounds (o + p.2) p.1) Z = (l.zipIdx (o + k)).foldl (fun cs p => cs.setIfInBounds p.2 p.1) Z := by
  induction l generalizing k Z with
  | nil => rfl
  | cons v l ih => rw [List.zipIdx_cons, List.zipIdx_cons, List.foldl_cons, List.foldl_cons, ih (k + 1)]; rfl
/-- A part of a literal that is an array whose cells are not written out. -/
theorem place_at (o n : Nat) (Y Z : Array Value) (hn : Y.size = n) (h : o + n ≤ Z.size) : Array.foldl (fun cs (x : Value × Nat) => cs.setIfInBounds (o + x.snd) x.fst) Z Y.zipIdx 0 n = (put Z.toList o Y.toList).toArray := by
  subst hn
  have e : Y.size = Y.zipIdx.size := by simp
  rw [e, ← Array.foldl_toList, Array.toList_zipIdx, place_list, Nat.add_zero, foldl_place _ _ _ (by rw [Array.length_toList]; exact h)]

/-- The same where the array comes first. -/
theorem place_first (n : Nat) (Y Z : Array Value) (hn : Y.size = n) (h : n ≤ Z.size) : Array.foldl (fun cs (x : Value × Nat) => cs.setIfInBounds x.snd x.fst) Z Y.zipIdx 0 n = (put Z.toList 0 Y.toList).toArray := by
  have := place_at 0 n Y Z hn (by omega)
  simpa using this

end Go.Proofs.Ytpjfhbmegabafaa
namespace Go.Proofs.Ytpjfhbmegabafaa

theorem Try.infoU8 : (Try.prog.info? 5).map (fun i => (i.zero, i.size, i.bytes)) = some (some (.int .u8 0), 1, 1) := by kernel_rfl

end Go.Proofs.Ytpjfhbmegabafaa
namespace Go.Proofs.Ytpjfhbmegabafaa
open Go.RowKit
open Go.Lib (strCells strCells_length strCells_oneCell)

theorem beL_cons (j x : Nat) : beL (j + 1) x = UInt8.ofNat (x / 256 ^ j) :: beL j x := by
  unfold beL
  rw [List.range_succ_eq_map, List.map_cons, List.map_map]
  congr 1
  apply List.map_congr_left
  intro i hi
  have hi' : i < j := by simpa using hi
  have e : j + 1 - 1 - (i + 1) = j - 1 - i := by omega
  simp only [Function.comp, Nat.succ_eq_add_one, e]

/-- The cells of the last j bytes, zeros ahead of them. -/
def beCells (n x j : Nat) : List Value := List.replicate (n - j) (.int .u8 0) ++ (beL j x).map fun b => Value.int .u8 (b.toNat : Int)

theorem beCells_all (n x : Nat) : beCells n x n = strCells (be n x) := by simp [beCells, strCells, be]
theorem beCells_set (n x j : Nat) (h : j < n) : (beCells n x j).set (n - 1 - j) (.int .u8 ((x / 256 ^ j % 256 : Nat) : Int)) = beCells n x (j + 1) := by
  unfold beCells
  have e : n - j = (n - 1 - j) + 1 := by omega
  rw [List.set_append_left _ _ (by simp; omega), e, List.replicate_succ', List.set_append_right _ _ (by simp)]
  simp only [List.length_replicate, Nat.sub_self, List.set_cons_zero, List.append_assoc, List.singleton_append]
  have e2 : n - (j + 1) = n - 1 - j := by omega
  rw [e2, beL_cons, List.map_cons]
  simp
theorem beCells_get (n x j : Nat) (h : j < n) : (beCells n x j)[n - 1 - j]? = some (.int .u8 0) := by
  unfold beCells
  rw [List.getElem?_append_left (by simp; omega), List.getElem?_replicate]
  simp
  omega

section
variable {P : Program} {ops : Array Oper} {o : Oper} {a : Act} {w : World} {Q : Exit → Act → World → Prop}
/-- 'make([]T, n)' of one-cell elements: the block written out. -/
theorem wpList_make_block {rest : List Oper} (hgd : o.guard = none) (l c : Operand) (t : TypeId) (hop : o.op = Op.makeSlice t l c) (e : TypeId) (i : TypeInfo) (z : Value) (ht : P.underlying t = some (.slice e)) (hi : P.info? e = some i)
    (hz : i.zero = some z) (hsize : i.size = 1) (hcz : z.cells = #[z]) (hby : i.bytes ≤ 64) (L : Int) (n : Nat) (hl : a.eval l = .int .i64 L) (hc : a.eval c = .int .i64 L) (hL : L = (n : Int)) (hn : n ≤ 1000000000)
    (h : wpList P ops Q rest (a.put o.dst (.slice (some ⟨w.heap.size, 0, none⟩) n n)) (w.alloc (.cells (List.replicate n z).toArray e))) : wpList P ops Q (o :: rest) a w := by
  subst hL
  have hb : i.bytes * n ≤ 64 * n := Nat.mul_le_mul_right _ hby
  have hrun := run_make (P := P) w t e i z ht hi hz .i64 .i64 (n : Int) (n : Int) (by omega) (by omega) (by have h1 : ((i.bytes * n : Nat) : Int) ≤ ((64 * n : Nat) : Int) := Int.ofNat_le.2 hb; rw [Int.natCast_mul] at h1; omega) (by omega)
  rw [hcz, Int.toNat_natCast, hsize, Nat.mul_one] at hrun
  have hm : madeCells #[z] n = (List.replicate n z).toArray := by rw [← toList_madeCells_one z n]
  rw [hm] at hrun
  refine wpList_run hgd _ _ ?_ h
  unfold execOp
  simp only [hop, hl, hc, Sem.run_bind, hrun, Result.andThen_ok, Sem.run_pure]
end

theorem byte_and (x : Int) (h0 : 0 ≤ x) (h1 : x < 9223372036854775808) : bits .and .i64 x 255 = x % 256 := by
  obtain ⟨n, rfl⟩ : ∃ n : Nat, x = n := ⟨x.toNat, by omega⟩
  show IntKind.i64.wrap ((BitVec.ofInt 64 (n : Int) &&& BitVec.ofInt 64 255).toNat : Int) = _
  have h255 : BitVec.ofInt 64 255 = 255#64 := by decide
  rw [BitVec.ofInt_natCast, h255, BitVec.toNat_and, BitVec.toNat_ofNat, Nat.mod_eq_of_lt (by omega)]
  have e : (255#64 : BitVec 64).toNat = 2 ^ 8 - 1 := by decide
  rw [e, Nat.and_two_pow_sub_one_eq_mod, IntWalk.i64_in _ (by omega)]
  omega

theorem pow_step (x j : Nat) : x / 256 ^ j / 256 = x / 256 ^ (j + 1) := by
  rw [Nat.pow_succ, ← Nat.div_div_eq_div_mul]

set_option maxRecDepth 100000 in
set_option maxHeartbeats 1000000 in
theorem Be_any (x size : Int) (n : Nat) (hn : size = n) (hs : n ≤ 64) (x0 : Nat) (hx : x = x0) (hx1 : x0 < 9223372036854775808) (w : World) :
    Calls Try.prog 63 #[.int .i64 x, .int .i64 size] w fun e w' => e = .returned (.string (be n x0)) ∧ Below w.heap.size w w' := by
  subst hn hx
  obtain ⟨i0, hi, hz0, hz1, hz2⟩ := info_parts Try.infoU8
  have hx1' := hid hx1
  clear hx1
  go_enter Try.func63, Try.ntmps63
  go_wp2_with ((with_reducible refine at_slot (some 8) ?_); refine wpList_make_block rfl _ _ 51 rfl 5 i0 (.int .u8 0) Try.underlying51 hi hz0 hz1 rfl (by omega) _ n rfl rfl rfl (by omega) ?_)
  go_loopw [0, 6] (fun x i wr => ∃ j y : Nat, j ≤ n ∧ i = .int .i64 ((n : Int) - 1 - j) ∧ x = .int .i64 (y : Int) ∧ Hid (x0 / 256 ^ j = y) ∧ Holds wr w.heap.size 5 (beCells n x0 j) ∧ Below w.heap.size w wr) (fun _ i _ => (intOf i + 1).toNat)
  case atStart => exact ⟨0, x0, Nat.zero_le _, by simp, rfl, hid (by simp), by have := Holds.new w 5 (List.replicate n (.int .u8 0)).toArray; simpa [beCells, beL] using this, (Below.refl _ _).alloc (Nat.le_refl _) _⟩
  case round =>
    obtain ⟨j, y, hj, rfl, rfl, hy, hH, hB⟩ := hrel
    have hyx : y < 9223372036854775808 := by have := Nat.div_le_self x0 (256 ^ j); rw [hy.out] at this; have := hx1'.out; omega
    by_cases hlt : j < n
    · have hand := byte_and (y : Int) (by omega) (by omega)
      have hcell := (hH.cell (n - 1 - j)).trans (beCells_get n x0 j hlt)
      have hfr := hH.frozen (n - 1 - j)
      have hset0 := beCells_set n x0 j hlt
      rw [hy.out] at hset0
      have hset := hid hset0
      have hpow0 := pow_step x0 j
      rw [hy.out] at hpow0
      have hpow := hid hpow0.symm
      have hH' := hid hH
      have hB' := hid hB
      have hge : decide ((0 : Int) ≤ (n : Int) - 1 - j) = true := by simp; omega
      have hto : ((n : Int) - 1 - j).toNat = n - 1 - j := by omega
      have hl1 : (n : Int) - 1 - j < n := by omega
      have hg1 : (0 : Int) ≤ (n : Int) - 1 - j := by omega
      have hyx' := hid hyx
      clear hH hB hset0 hpow0 hyx
      go_wp2
      go_roundw
      case rel =>
        refine ⟨j + 1, y / 256, by omega, by go_num, by go_num, hpow, ?_, ?_⟩
        · rw [← hset.out]
          exact hH'.out.set _ _
        · exact hB'.out.setCell (Nat.le_refl _) _
      case measure => simp [intOf]; omega
    · have hjn : j = n := by omega
      subst hjn
      have hge : decide ((0 : Int) ≤ (j : Int) - 1 - j) = false := by simp; omega
      rw [beCells_all] at hH
      have hcv := run_convert_block (P := Try.prog) (w := wr) (e := 5) (n := j) (c := j) 51 9 Try.underlying51 Try.underlying5 Try.underlying9 (be_size j x0).symm hH rfl
      have hB' := hid hB
      clear hH hB hlt hj hyx hs
      go_wp2
      go_ret
      exact ⟨rfl, hB'.out⟩

end Go.Proofs.Ytpjfhbmegabafaa
namespace Go.Proofs.Ytpjfhbmegabafaa
open Go.RowKit

/-- A word as the number that Go holds. -/
def u (x : BitVec 32) : Int := (x.toNat : Int)

theorem ofInt_u (x : BitVec 32) : BitVec.ofInt 32 (u x) = x := by
  unfold u
  rw [BitVec.ofInt_natCast]
  simp

theorem u_shr (x : BitVec 32) (k : Nat) : u x / 2 ^ k = u (x >>> k) := by
  unfold u
  rw [BitVec.toNat_ushiftRight, Nat.shiftRight_eq_div_pow, Int.natCast_ediv, Int.natCast_pow]
  rfl

theorem u_shl (x : BitVec 32) (k : Nat) : u x * 2 ^ k % 4294967296 = u (x <<< k) := by
  unfold u
  rw [BitVec.toNat_shiftLeft, Nat.shiftLeft_eq, Int.natCast_emod, Int.natCast_mul, Int.natCast_pow]
  rfl

theorem wrap_u (x : BitVec 32) : IntKind.u32.wrap (x.toNat : Int) = u x := by
  have h := x.isLt
  have e : IntKind.u32.wrap (x.toNat : Int) = (x.toNat : Int) % 4294967296 := rfl
  rw [e]
  unfold u
  omega

theorem u_or (x y : BitVec 32) : bits .or .u32 (u x) (u y) = u (x ||| y) := by
  show IntKind.u32.wrap ((BitVec.ofInt 32 (u x) ||| BitVec.ofInt 32 (u y)).toNat : Int) = _
  rw [ofInt_u, ofInt_u, wrap_u]

theorem u_and (x y : BitVec 32) : bits .and .u32 (u x) (u y) = u (x &&& y) := by
  show IntKind.u32.wrap ((BitVec.ofInt 32 (u x) &&& BitVec.ofInt 32 (u y)).toNat : Int) = _
  rw [ofInt_u, ofInt_u, wrap_u]

theorem u_xor (x y : BitVec 32) : bits .xor .u32 (u x) (u y) = u (x ^^^ y) := by
  show IntKind.u32.wrap ((BitVec.ofInt 32 (u x) ^^^ BitVec.ofInt 32 (u y)).toNat : Int) = _
  rw [ofInt_u, ofInt_u, wrap_u]

theorem u_add (x y : BitVec 32) : (u x + u y) % 4294967296 = u (x + y) := by
  unfold u
  rw [BitVec.toNat_add, Int.natCast_emod, Int.natCast_add]
  rfl

theorem u_wrap_add (x y : BitVec 32) : IntKind.u32.wrap (u x + u y) = u (x + y) := by
  rw [← u_add]
  rfl

theorem ru {x y : Int} (h : x = y) : Ending.returned (.int .u32 x) = Ending.returned (.int .u32 y) := by rw [h]

theorem turn_any (x : BitVec 32) (k : Int) (hk : 1 ≤ k) (hk' : k ≤ 31) (w : World) :
    Calls Try.prog 107 #[.int .u32 (u x), .int .u64 k] w fun e w' => e = .returned (.int .u32 (u (Sha.rot x k.toNat))) ∧ w' = w := by
  obtain ⟨k, rfl⟩ : ∃ n : Nat, k = n := ⟨k.toNat, by omega⟩
  go_enter Try.func107, Try.ntmps107
  go_wp2
  go_ret
  exact ⟨ru (by rw [u_shr, u_shl, u_or]; rfl), rfl⟩

theorem stir_any (x : BitVec 32) (a b c : Int) (ha : 1 ≤ a) (ha' : a ≤ 31) (hb : 1 ≤ b) (hb' : b ≤ 31) (hc : 1 ≤ c) (hc' : c ≤ 31) (w : World) :
    Calls Try.prog 108 #[.int .u32 (u x), .int .u64 a, .int .u64 b, .int .u64 c] w fun e w' => e = .returned (.int .u32 (u (Sha.rot x a.toNat ^^^ Sha.rot x b.toNat ^^^ Sha.rot x c.toNat))) ∧ w' = w := by
  go_enter Try.func108, Try.ntmps108
  go_wp2_with (go_at_call 107; refine (turn_any _ _ (by omega) (by omega) _).mono ?_; rintro e w' ⟨rfl, rfl⟩)
  go_ret
  exact ⟨ru (by rw [u_xor, u_xor]), rfl⟩

theorem spread_any (x : BitVec 32) (a b c : Int) (ha : 1 ≤ a) (ha' : a ≤ 31) (hb : 1 ≤ b) (hb' : b ≤ 31) (hc : 1 ≤ c) (hc' : c ≤ 31) (w : World) :
    Calls Try.prog 104 #[.int .u32 (u x), .int .u64 a, .int .u64 b, .int .u64 c] w fun e w' => e = .returned (.int .u32 (u (Sha.rot x a.toNat ^^^ Sha.rot x b.toNat ^^^ x >>> c.toNat))) ∧ w' = w := by
  obtain ⟨c, rfl⟩ : ∃ n : Nat, c = n := ⟨c.toNat, by omega⟩
  go_enter Try.func104, Try.ntmps104
  go_wp2_with (go_at_call 107; refine (turn_any _ _ (by omega) (by omega) _).mono ?_; rintro e w' ⟨rfl, rfl⟩)
  go_ret
  exact ⟨ru (by rw [u_shr, u_xor, u_xor]; rfl), rfl⟩

theorem lower_word (e f g : BitVec 32) (w : World) :
    Calls Try.prog 105 #[.int .u32 (u e), .int .u32 (u f), .int .u32 (u g)] w fun r w' => r = .returned (.int .u32 (u (Sha.sum1 e + Sha.ch e f g))) ∧ w' = w := by
  go_enter Try.func105, Try.ntmps105
  go_wp2_with (go_at_call 108; refine (stir_any _ _ _ _ (by omega) (by omega) (by omega) (by omega) (by omega) (by omega) _).mono ?_; rintro e w' ⟨rfl, rfl⟩)
  go_ret
  refine ⟨ru ?_, rfl⟩
  rw [u_xor, u_and, u_xor, u_add, Sha.ch_alt]
  rfl

theorem upper_word (a b c : BitVec 32) (w : World) :
    Calls Try.prog 106 #[.int .u32 (u a), .int .u32 (u b), .int .u32 (u c)] w fun r w' => r = .returned (.int .u32 (u (Sha.sum0 a + Sha.maj a b c))) ∧ w' = w := by
  go_enter Try.func106, Try.ntmps106
  go_wp2_with (go_at_call 108; refine (stir_any _ _ _ _ (by omega) (by omega) (by omega) (by omega) (by omega) (by omega) _).mono ?_; rintro e w' ⟨rfl, rfl⟩)
  go_ret
  refine ⟨ru ?_, rfl⟩
  rw [u_or, u_and, u_and, u_or, u_add, Sha.maj_alt]
  rfl

theorem sig0_any (x : BitVec 32) (w : World) : Calls Try.prog 104 #[.int .u32 (u x), .int .u64 7, .int .u64 18, .int .u64 3] w fun e w' => e = .returned (.int .u32 (u (Sha.sig0 x))) ∧ w' = w :=
  spread_any x 7 18 3 (by omega) (by omega) (by omega) (by omega) (by omega) (by omega) w

theorem sig1_any (x : BitVec 32) (w : World) : Calls Try.prog 104 #[.int .u32 (u x), .int .u64 17, .int .u64 19, .int .u64 10] w fun e w' => e = .returned (.int .u32 (u (Sha.sig1 x))) ∧ w' = w :=
  spread_any x 17 19 10 (by omega) (by omega) (by omega) (by omega) (by omega) (by omega) w

end Go.Proofs.Ytpjfhbmegabafaa
namespace Go.Proofs.Ytpjfhbmegabafaa
open Go.RowKit

/-- A byte as the number that Go holds. -/
def ub (b : UInt8) : Int := u (BitVec.ofNat 32 b.toNat)

theorem ub_bd (b : UInt8) : 0 ≤ ub b ∧ ub b ≤ 255 := by
  unfold ub u
  have := b.toNat_lt
  rw [BitVec.toNat_ofNat]
  omega

/-- The cells of a Digest: eight words, 64 bytes, a number. -/
def digCells (s : Sha.S8) (rest : List UInt8) (n : Int) : List Value :=
  [.int .u32 (u s.a), .int .u32 (u s.b), .int .u32 (u s.c), .int .u32 (u s.d), .int .u32 (u s.e), .int .u32 (u s.f), .int .u32 (u s.g), .int .u32 (u s.h)] ++ (rest.map fun b => .int .u8 (ub b)) ++ [.int .i64 n]

def wordCells (ws : List (BitVec 32)) : List Value := ws.map fun x => .int .u32 (u x)

/-- The table, as a value. -/
def ksAgg : Value := .agg (wordCells Sha.ks).toArray

theorem ks_length : (wordCells Sha.ks).toArray.size = 64 := by decide

theorem wordCells_one (ws : List (BitVec 32)) : ∀ v ∈ wordCells ws, v.oneCell' = true := by
  intro v hv
  obtain ⟨x, _, rfl⟩ := List.mem_map.1 hv
  rfl

theorem Try.sizeKs : (Try.prog.info? 179).map (·.size) = some 64 := by kernel_rfl

set_option maxRecDepth 100000 in
set_option maxHeartbeats 1000000 in
theorem constants_any (w : World) : Calls Try.prog 103 #[] w fun e w' => e = .returned ksAgg ∧ Below w.heap.size w w' := by
  go_enter Try.func103, Try.ntmps103
  go_wp2_with (refine wpList_store_mid rfl 179 (.tmp 0) (.tmp 1) rfl w.heap.size 0 (wordCells Sha.ks).toArray rfl rfl ?_ ?_ ?_ ?_)
  · rw [ks_length]
    exact (Holds.new _ _ _).there 0 64 (by decide)
  · rw [ks_length]
    exact Try.sizeKs
  · exact all_oneCell_toArray (wordCells_one _)
  · have h0 := Holds.put (Holds.new w 179 (Array.replicate 64 (.int .u32 0))) 0 (wordCells Sha.ks) (by decide)
    rw [put_all _ _ (by decide)] at h0
    refine bodyPost_ret (v := ksAgg) ?_ rfl ⟨rfl, below_setCells ((Below.refl _ _).alloc (Nat.le_refl _) _) _ _ _ (Nat.le_refl _)⟩
    exact results_cell_row rfl _ _ w.heap.size 179 (wordCells Sha.ks).toArray (0, 0) _ rfl h0 Try.underlying179 rfl (by rw [ks_length]; exact Try.sizeKs)

end Go.Proofs.Ytpjfhbmegabafaa
namespace Go.Proofs.Ytpjfhbmegabafaa

open Go.RowKit
attribute [local go_sem] u_add u_wrap_add u_or u_and u_xor

set_option maxHeartbeats 400000 in
theorem rot_any (x : BitVec 32) (k : Int) (hk : 1 ≤ k) (hk' : k ≤ 31) (w : World) :
    Calls Try.prog 100 #[.int .u32 (u x), .int .i64 k] w fun e w' => e = .returned (.int .u32 (u (Sha.rot x k.toNat))) ∧ ∃ m, w' = w.drewN m := by
  obtain ⟨k, rfl⟩ : ∃ n : Nat, k = n := ⟨k.toNat, by omega⟩
  have s1 := IntWalk.i64_in (32 - (k : Int)) (by omega)
  have s2 : (32 - (k : Int)).toNat = 32 - k := by omega
  have s3 : 0 ≤ 32 - (k : Int) := by omega
  go_enter Try.func100, Try.ntmps100
  go_wp2_with fail
  go_quiet (fail)
  go_wp2
  go_ret
  exact ⟨ru (by rw [u_shr, u_shl, u_or]; rfl), _, rfl⟩

end Go.Proofs.Ytpjfhbmegabafaa
namespace Go.Proofs.Ytpjfhbmegabafaa
open Go.RowKit

theorem quiet_of_more {P : Program} {f : FuncId} {args : Array Value} {w : World} {n : Nat} {v : Value} (h : Calls P f args (w.drewN n) fun e w' => e = .returned v ∧ ∃ m, w' = (w.drewN n).drewN m) :
    Calls P f args (w.drewN n) fun e w'' => e = .returned v ∧ ∃ m, w'' = w.drewN m :=
  h.mono fun _ _ ⟨he, m, hm⟩ => ⟨he, n + m, hm.trans (by simp [World.drewN, Nat.add_assoc])⟩
theorem u_not (x : BitVec 32) : bits .xor .u32 (if IntKind.u32.signed = true then -1 else IntKind.u32.max) (u x) = u (~~~x) := by
  have e : (if IntKind.u32.signed = true then -1 else IntKind.u32.max) = u (BitVec.allOnes 32) := by decide
  rw [e, u_xor, BitVec.allOnes_xor]
theorem u_shr3 (x : BitVec 32) : u x / (8 : Int) = u (x >>> (3 : Nat)) := u_shr x 3
theorem u_shr10 (x : BitVec 32) : u x / (1024 : Int) = u (x >>> (10 : Nat)) := u_shr x 10


/-- The region of this number. -/
def blkFind (n : Nat) : Code → Option Code
  | .region i ops d => if i = n then some (.region i ops d) else none
  | .loop c => blkFind n c
  | .block _ c => blkFind n c
  | .scope c => blkFind n c
  | .seq a b => match blkFind n a with
    | some c => some c
    | none => blkFind n b
  | .cond _ a b => match blkFind n a with
    | some c => some c
    | none => blkFind n b
  | _ => none
noncomputable def blkReg (n : Nat) : Code := ((Try.f86.body.bind (blkFind n)).getD .skip)

theorem blkArray (T : Array Value) (n : Nat) (h : T.size = n) : T = ((List.range n).map fun i => T.getD i undef).toArray := by
  subst h
  apply Array.ext
  · simp
  · intro i h1 h2
    simp [Array.getElem?_eq_getElem h1]

set_option maxRecDepth 100000 in
theorem blkOut (T : Array Value) (h : T.size = 212) : T =
    #[T.getD 0 undef, T.getD 1 undef, T.getD 2 undef, T.getD 3 undef, T.getD 4 undef, T.getD 5 undef, T.getD 6 undef, T.getD 7 undef, T.getD 8 undef, T.getD 9 undef, T.getD 10 undef, T.getD 11 undef,
    T.getD 12 undef, T.getD 13 undef, T.getD 14 undef, T.getD 15 undef, T.getD 16 undef, T.getD 17 undef, T.getD 18 undef, T.getD 19 undef, T.getD 20 undef, T.getD 21 undef, T.getD 22 undef, T.getD 23
    undef, T.getD 24 undef, T.getD 25 undef, T.getD 26 undef, T.getD 27 undef, T.getD 28 undef, T.getD 29 undef, T.getD 30 undef, T.getD 31 undef, T.getD 32 undef, T.getD 33 undef, T.getD 34 undef,
    T.getD 35 undef, T.getD 36 undef, T.getD 37 undef, T.getD 38 undef, T.getD 39 undef, T.getD 40 undef, T.getD 41 undef, T.getD 42 undef, T.getD 43 undef, T.getD 44 undef, T.getD 45 undef, T.getD 46
    undef, T.getD 47 undef, T.getD 48 undef, T.getD 49 undef, T.getD 50 undef, T.getD 51 undef, T.getD 52 undef, T.getD 53 undef, T.getD 54 undef, T.getD 55 undef, T.getD 56 undef, T.getD 57 undef,
    T.getD 58 undef, T.getD 59 undef, T.getD 60 undef, T.getD 61 undef, T.getD 62 undef, T.getD 63 undef, T.getD 64 undef, T.getD 65 undef, T.getD 66 undef, T.getD 67 undef, T.getD 68 undef, T.getD 69
    undef, T.getD 70 undef, T.getD 71 undef, T.getD 72 undef, T.getD 73 undef, T.getD 74 undef, T.getD 75 undef, T.getD 76 undef, T.getD 77 undef, T.getD 78 undef, T.getD 79 undef, T.getD 80 undef,
    T.getD 81 undef, T.getD 82 undef, T.getD 83 undef, T.getD 84 undef, T.getD 85 undef, T.getD 86 undef, T.getD 87 undef, T.getD 88 undef, T.getD 89 undef, T.getD 90 undef, T.getD 91 undef, T.getD 92
    undef, T.getD 93 undef, T.getD 94 undef, T.getD 95 undef, T.getD 96 undef, T.getD 97 undef, T.getD 98 undef, T.getD 99 undef, T.getD 100 undef, T.getD 101 undef, T.getD 102 undef, T.getD 103
    undef, T.getD 104 undef, T.getD 105 undef, T.getD 106 undef, T.getD 107 undef, T.getD 108 undef, T.getD 109 undef, T.getD 110 undef, T.getD 111 undef, T.getD 112 undef, T.getD 113 undef, T.getD
    114 undef, T.getD 115 undef, T.getD 116 undef, T.getD 117 undef, T.getD 118 undef, T.getD 119 undef, T.getD 120 undef, T.getD 121 undef, T.getD 122 undef, T.getD 123 undef, T.getD 124 undef,
    T.getD 125 undef, T.getD 126 undef, T.getD 127 undef, T.getD 128 undef, T.getD 129 undef, T.getD 130 undef, T.getD 131 undef, T.getD 132 undef, T.getD 133 undef, T.getD 134 undef, T.getD 135
    undef, T.getD 136 undef, T.getD 137 undef, T.getD 138 undef, T.getD 139 undef, T.getD 140 undef, T.getD 141 undef, T.getD 142 undef, T.getD 143 undef, T.getD 144 undef, T.getD 145 undef, T.getD
    146 undef, T.getD 147 undef, T.getD 148 undef, T.getD 149 undef, T.getD 150 undef, T.getD 151 undef, T.getD 152 undef, T.getD 153 undef, T.getD 154 undef, T.getD 155 undef, T.getD 156 undef,
    T.getD 157 undef, T.getD 158 undef, T.getD 159 undef, T.getD 160 undef, T.getD 161 undef, T.getD 162 undef, T.getD 163 undef, T.getD 164 undef, T.getD 165 undef, T.getD 166 undef, T.getD 167
    undef, T.getD 168 undef, T.getD 169 undef, T.getD 170 undef, T.getD 171 undef, T.getD 172 undef, T.getD 173 undef, T.getD 174 undef, T.getD 175 undef, T.getD 176 undef, T.getD 177 undef, T.getD
    178 undef, T.getD 179 undef, T.getD 180 undef, T.getD 181 undef, T.getD 182 undef, T.getD 183 undef, T.getD 184 undef, T.getD 185 undef, T.getD 186 undef, T.getD 187 undef, T.getD 188 undef,
    T.getD 189 undef, T.getD 190 undef, T.getD 191 undef, T.getD 192 undef, T.getD 193 undef, T.getD 194 undef, T.getD 195 undef, T.getD 196 undef, T.getD 197 undef, T.getD 198 undef, T.getD 199
    undef, T.getD 200 undef, T.getD 201 undef, T.getD 202 undef, T.getD 203 undef, T.getD 204 undef, T.getD 205 undef, T.getD 206 undef, T.getD 207 undef, T.getD 208 undef, T.getD 209 undef, T.getD
    210 undef, T.getD 211 undef] := blkArray T 212 h

/-- What of a frame is read later. -/
structure blkLive (T : Array Value) (l0 l1 l2 l4 l5 l6 l7 l8 l9 l10 l11 l12 l13 l14 l15 l16 l17 : Value) : Prop where
  size : T.size = 212
  s0 : T.getD 0 undef = l0
  s1 : T.getD 1 undef = l1
  s2 : T.getD 2 undef = l2
  s4 : T.getD 4 undef = l4
  s5 : T.getD 5 undef = l5
  s6 : T.getD 6 undef = l6
  s7 : T.getD 7 undef = l7
  s8 : T.getD 8 undef = l8
  s9 : T.getD 9 undef = l9
  s10 : T.getD 10 undef = l10
  s11 : T.getD 11 undef = l11
  s12 : T.getD 12 undef = l12
  s13 : T.getD 13 undef = l13
  s14 : T.getD 14 undef = l14
  s15 : T.getD 15 undef = l15
  s16 : T.getD 16 undef = l16
  s17 : T.getD 17 undef = l17

end Go.Proofs.Ytpjfhbmegabafaa
