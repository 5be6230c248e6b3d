/- LM-OTS (RFC 8554) as plain functions on lists of bytes. No function of the program is named here.
   Numbers as bytes: package num.
   Layer 4: kinds, digits, numbers: the small functions, of the program and of the reference.
   Layer 4: digits, numbers.
   Layer 4, the program's side: hash, private.
   Layer 4, the program's side: private, walk.
   Layer 4, the program's side: walk.
   Layer 4, the program's side: gather. -/
import Derived.Test.YtmfajekfipfjpaaGreatShaText
import Derived.Test.YtmfajekfipfjpaaGreatBytes
import Derived.Test.YtmfajekfipfjpaaGreatKeepX
import Derived.Test.YtmfajekfipfjpaaGreatRows
import Derived.Test.YtmfajekfipfjpaaGreatRoundR
import Derived.Deep.RegionHeld3
import Derived.Deep.Quiet
import Derived.Test.YtmfajekfipfjpaaGreatRefBe
import Derived.Test.YtmfajekfipfjpaaGreatTwo
import Derived.Test.YtmfajekfipfjpaaGreatHashR
import Derived.Deep.RegionWith
set_option maxRecDepth 100000
namespace Go.Proofs.YtmfajekfipfjpaaGreat.Ots

/-- Bits of a digit, digits, how far their sum is shifted. -/
structure Par where
  w : Nat
  p : Nat
  ls : Nat

def par (kind : Int) : Option Par := if kind = 3 then some ⟨4, 67, 4⟩ else if kind = 4 then some ⟨8, 34, 0⟩ else none

def Par.top (o : Par) : Nat := 2 ^ o.w - 1

/-- May an id and a number be? -/
def may (idSize : Nat) (q : Int) : Bool := decide (idSize = 16 ∧ 0 ≤ q ∧ q ≤ 4294967295)

/-- What chain i begins with. -/
def priv (head : List UInt8) (i : Nat) (seed : List UInt8) : List UInt8 := Sha.sha (head ++ beL 2 i ++ [255] ++ seed)

/-- One step of chain i, the j-th. -/
def step (head : List UInt8) (i j : Nat) (x : List UInt8) : List UInt8 := Sha.sha (head ++ beL 2 i ++ beL 1 j ++ x)

/-- m steps from the f-th on. -/
def steps (head : List UInt8) (i f : Nat) : Nat → List UInt8 → List UInt8
  | 0, x => x
  | m + 1, x => step head i (f + m) (steps head i f m x)

theorem steps_next (head : List UInt8) (i f m : Nat) (x : List UInt8) : steps head i f (m + 1) x = step head i (f + m) (steps head i f m x) := rfl
/-- To go on where one has stopped. -/
theorem steps_on (head : List UInt8) (i d m : Nat) (x : List UInt8) : steps head i d m (steps head i 0 d x) = steps head i 0 (d + m) x := by
  induction m with
  | zero => rfl
  | succ m ih =>
    rw [steps_next, ih, Nat.add_succ, steps_next, Nat.zero_add]

/-- The digest that the chains' ends make. -/
def gather (head : List UInt8) (ends : List (List UInt8)) : List UInt8 := Sha.sha (head ++ [0x80, 0x80] ++ ends.flatten)

def pub (o : Par) (head seed : List UInt8) : List UInt8 := gather head ((List.range o.p).map fun i => steps head i 0 o.top (priv head i seed))

/-- The i-th digit of w bits. -/
def digit (s : List UInt8) (i w : Nat) : Nat := (s.getD (i * w / 8) 0).toNat / 2 ^ (8 - w - i * w % 8) % 2 ^ w

def firsts (o : Par) (q : List UInt8) : List Nat := (List.range (256 / o.w)).map fun i => digit q i o.w

def left (o : Par) (ds : List Nat) : Nat := (ds.map fun d => o.top - d).sum

def digitsOf (o : Par) (q : List UInt8) : List Nat :=
  firsts o q ++ (List.range (o.p - 256 / o.w)).map fun i => digit (beL 2 (left o (firsts o q) * 2 ^ o.ls)) i o.w

/-- How far each chain goes for a message. -/
def digits (o : Par) (head salt msg : List UInt8) : List Nat := digitsOf o (Sha.sha (head ++ [0x81, 0x81] ++ salt ++ msg))

def salt (head seed : List UInt8) : List UInt8 := priv head 0xfffd seed

def sign (o : Par) (kind : Nat) (head seed msg : List UInt8) : List UInt8 :=
  beL 4 kind ++ salt head seed ++ ((List.range o.p).map fun i => steps head i 0 ((digits o head (salt head seed) msg).getD i 0) (priv head i seed)).flatten

/-- Part i of a signature's chains. -/
def part (s : List UInt8) (i : Nat) : List UInt8 := (s.drop (36 + 32 * i)).take 32

def cand (o : Par) (head msg s : List UInt8) : List UInt8 :=
  gather head ((List.range o.p).map fun i => steps head i ((digits o head ((s.drop 4).take 32) msg).getD i 0) (o.top - (digits o head ((s.drop 4).take 32) msg).getD i 0) (part s i))

/-- An id and a number, as they stand ahead of each text. -/
def head (id : List UInt8) (q : Nat) : List UInt8 := id ++ beL 4 q

end Go.Proofs.YtmfajekfipfjpaaGreat.Ots
namespace Go.Proofs.YtmfajekfipfjpaaGreat
open Go.RowKit
open Go.Lib (strCells strCells_length strCells_oneCell)

/-- A slice of bytes as a text. -/
theorem row_text (w : World) (g n : Nat) (s : ByteArray) (hn : n = s.size) (t : TypeId) (h : Holds w g t (strCells s)) : (convert 65 9 (.slice (some ⟨g, 0, none⟩) n n)).run Tryz.prog w = .ok (.string s) w :=
  run_convert_block (P := Tryz.prog) (w := w) (e := 5) (n := n) (c := n) 65 9 Tryz.underlying65 Tryz.underlying5 Tryz.underlying9 hn h rfl

theorem be_byte (n k : Nat) : ((UInt8.ofNat (n / 256 ^ k)).toNat : Int) = (n : Int) / 256 ^ k % 256 := by
  rw [UInt8.toNat_ofNat', Int.natCast_emod, Int.natCast_ediv, Int.natCast_pow]
  rfl

theorem be_byte0 (n : Nat) : ((UInt8.ofNat (n / 256 ^ 0)).toNat : Int) = (n : Int) % 256 := by
  have e := be_byte n 0
  have q0 : (n : Int) / 256 ^ 0 = n := by simp
  rw [q0] at e
  exact e

theorem U8_any (n : Nat) (w : World) : Calls Tryz.prog 85 #[.int .i64 (n : Int)] w fun e w' => e = .returned (.string (be 1 n)) ∧ Below w.heap.size w w' := by
  have hcv := row_text (w.alloc (.cells #[.int .u8 ((n : Int) % 256)] 5)) w.heap.size 1 (be 1 n) rfl 5 (by
    have h := Holds.new w 5 #[.int .u8 ((n : Int) % 256)]
    have e : strCells (be 1 n) = [.int .u8 ((n : Int) % 256)] := by
      rw [← be_byte0]
      rfl
    rw [e]
    exact h)
  go_enter Tryz.func85, Tryz.ntmps85
  go_wp2
  go_ret
  exact ⟨rfl, (Below.refl _ _).alloc (Nat.le_refl _) _⟩

theorem U16_any (n : Nat) (w : World) : Calls Tryz.prog 72 #[.int .i64 (n : Int)] w fun e w' => e = .returned (.string (be 2 n)) ∧ Below w.heap.size w w' := by
  have hcv := row_text (w.alloc (.cells #[.int .u8 ((n : Int) / 256 % 256), .int .u8 ((n : Int) % 256)] 5)) w.heap.size 2 (be 2 n) rfl 5 (by
    have h := Holds.new w 5 #[.int .u8 ((n : Int) / 256 % 256), .int .u8 ((n : Int) % 256)]
    have e : strCells (be 2 n) = [.int .u8 ((n : Int) / 256 % 256), .int .u8 ((n : Int) % 256)] := by
      have f1 : (n : Int) / 256 % 256 = _ := (be_byte n 1).symm
      rw [f1, ← be_byte0]
      rfl
    rw [e]
    exact h)
  go_enter Tryz.func72, Tryz.ntmps72
  go_wp2
  go_ret
  exact ⟨rfl, (Below.refl _ _).alloc (Nat.le_refl _) _⟩

theorem U32_any (n : Nat) (w : World) : Calls Tryz.prog 15 #[.int .i64 (n : Int)] w fun e w' => e = .returned (.string (be 4 n)) ∧ Below w.heap.size w w' := by
  have hcv := row_text (w.alloc (.cells #[.int .u8 ((n : Int) / 16777216 % 256), .int .u8 ((n : Int) / 65536 % 256), .int .u8 ((n : Int) / 256 % 256), .int .u8 ((n : Int) % 256)] 5)) w.heap.size 4 (be 4 n) rfl 5 (by
    have h := Holds.new w 5 #[.int .u8 ((n : Int) / 16777216 % 256), .int .u8 ((n : Int) / 65536 % 256), .int .u8 ((n : Int) / 256 % 256), .int .u8 ((n : Int) % 256)]
    have e : strCells (be 4 n) = [.int .u8 ((n : Int) / 16777216 % 256), .int .u8 ((n : Int) / 65536 % 256), .int .u8 ((n : Int) / 256 % 256), .int .u8 ((n : Int) % 256)] := by
      have f3 : (n : Int) / 16777216 % 256 = _ := (be_byte n 3).symm
      have f2 : (n : Int) / 65536 % 256 = _ := (be_byte n 2).symm
      have f1 : (n : Int) / 256 % 256 = _ := (be_byte n 1).symm
      rw [f3, f2, f1, ← be_byte0]
      rfl
    rw [e]
    exact h)
  go_enter Tryz.func15, Tryz.ntmps15
  go_wp2
  go_ret
  exact ⟨rfl, (Below.refl _ _).alloc (Nat.le_refl _) _⟩

end Go.Proofs.YtmfajekfipfjpaaGreat
namespace Go.Proofs.YtmfajekfipfjpaaGreat
open Go.RowKit

theorem Tryz.sizeOts : (Tryz.prog.info? 54).map (·.size) = some 3 := by kernel_rfl

def parC (o : Ots.Par) : Array Value := #[.int .i64 (o.w : Int), .int .i64 (o.p : Int), .int .i64 (o.ls : Int)]
def noC : Array Value := #[.int .i64 0, .int .i64 0, .int .i64 0]

/-- What kinds.OtsOf answers. -/
def parAns (kind : Int) : Value := match Ots.par kind with
  | some o => .tuple #[.agg (parC o), .bool true]
  | none => .tuple #[.agg noC, .bool false]

theorem OtsOf_any (kind : Int) (w : World) : Calls Tryz.prog 27 #[.int .i64 kind] w fun e w' => e = .returned (parAns kind) ∧ Below w.heap.size w w' := by
  by_cases h3 : kind = 3
  · subst h3
    go_enter Tryz.func27, Tryz.ntmps27
    go_wp2
    exact bodyPost_ret (results_ct rfl _ _ w.heap.size 54 (parC ⟨4, 67, 4⟩) (0, 0) _ rfl (heap_alloc_new _ _) (.bool true) rfl Tryz.underlying54 rfl (by exact Tryz.sizeOts)) rfl ⟨rfl, (Below.refl _ _).alloc (Nat.le_refl _) _⟩
  · by_cases h4 : kind = 4
    · subst h4
      go_enter Tryz.func27, Tryz.ntmps27
      go_wp2
      exact bodyPost_ret (results_ct rfl _ _ w.heap.size 54 (parC ⟨8, 34, 0⟩) (0, 0) _ rfl (heap_alloc_new _ _) (.bool true) rfl Tryz.underlying54 rfl (by exact Tryz.sizeOts)) rfl ⟨rfl, (Below.refl _ _).alloc (Nat.le_refl _) _⟩
    · have e : parAns kind = .tuple #[.agg noC, .bool false] := by unfold parAns Ots.par; rw [if_neg h3, if_neg h4]
      have h3' : (kind == 3) = false := by simpa using h3
      have h4' : (kind == 4) = false := by simpa using h4
      have e' := hid e
      clear e
      go_enter Tryz.func27, Tryz.ntmps27
      go_wp2
      exact bodyPost_ret (results_ct rfl _ _ w.heap.size 54 noC (0, 0) _ rfl (heap_alloc_new _ _) (.bool false) rfl Tryz.underlying54 rfl (by exact Tryz.sizeOts)) rfl ⟨by rw [e'.out], (Below.refl _ _).alloc (Nat.le_refl _) _⟩

theorem nine {k : Nat} (h : k ≤ 8) : k = 0 ∨ k = 1 ∨ k = 2 ∨ k = 3 ∨ k = 4 ∨ k = 5 ∨ k = 6 ∨ k = 7 ∨ k = 8 := by omega

theorem top_wrap (k : Nat) (h : k ≤ 8) : wrap64 (wrap64 (2 ^ k) - 1) = ((2 ^ k - 1 : Nat) : Int) := by
  rcases nine h with rfl | rfl | rfl | rfl | rfl | rfl | rfl | rfl | rfl <;> decide +kernel

theorem Steps_any (o : Ots.Par) (ho : o.w ≤ 8) (w : World) : Calls Tryz.prog 69 #[.agg (parC o)] w fun e w' => e = .returned (.int .i64 (o.top : Int)) ∧ Below w.heap.size w w' := by
  unfold parC
  go_enter Tryz.func69, Tryz.ntmps69
  go_wp2
  go_ret
  exact ⟨congrArg (fun x => Ending.returned (.int .i64 x)) (top_wrap o.w ho), (Below.refl _ _).alloc (Nat.le_refl _) _⟩

theorem Length_any (o : Ots.Par) (ho : o.p ≤ 100) (w : World) : Calls Tryz.prog 41 #[.agg (parC o)] w fun e w' => e = .returned (.int .i64 ((36 + 32 * o.p : Nat) : Int)) ∧ Below w.heap.size w w' := by
  have s1 := IntWalk.i64_in ((o.p : Int) * 32) (by omega)
  have s2 := IntWalk.i64_in (36 + (o.p : Int) * 32) (by omega)
  unfold parC
  go_enter Tryz.func41, Tryz.ntmps41
  go_wp2
  go_ret
  exact ⟨congrArg (fun x => Ending.returned (.int .i64 x)) (by omega), (Below.refl _ _).alloc (Nat.le_refl _) _⟩

theorem nameMay_any (id : ByteArray) (q : Int) (w : World) : Calls Tryz.prog 62 #[.string id, .int .i64 q] w fun e w' => e = .returned (.bool (Ots.may id.size q)) ∧ w' = w := by
  have e : Ots.may id.size q = decide (id.size = 16 ∧ 0 ≤ q ∧ q ≤ 4294967295) := rfl
  rw [e]
  by_cases h1 : id.size = 16
  · by_cases h2 : 0 ≤ q
    · by_cases h3 : q ≤ 4294967295
      · rw [decide_eq_true ⟨h1, h2, h3⟩]
        go_enter Tryz.func62, Tryz.ntmps62
        go_wp2
        go_ret
        exact ⟨rfl, rfl⟩
      · rw [decide_eq_false (fun h => h3 h.2.2)]
        have h3' : decide (q ≤ 4294967295) = false := decide_eq_false h3
        go_enter Tryz.func62, Tryz.ntmps62
        go_wp2
        go_ret
        exact ⟨rfl, rfl⟩
    · rw [decide_eq_false (fun h => h2 h.2.1)]
      have h2' : decide (0 ≤ q) = false := decide_eq_false h2
      go_enter Tryz.func62, Tryz.ntmps62
      go_wp2
      go_ret
      exact ⟨rfl, rfl⟩
  · rw [decide_eq_false (fun h => h1 h.1)]
    have h1' : ((id.size : Int) == 16) = false := by
      simp
      omega
    go_enter Tryz.func62, Tryz.ntmps62
    go_wp2
    go_ret
    exact ⟨rfl, rfl⟩

end Go.Proofs.YtmfajekfipfjpaaGreat
namespace Go.Proofs.YtmfajekfipfjpaaGreat
open Go.RowKit

theorem mask_and (x k : Nat) (hx : x < 9223372036854775808) (hk : k ≤ 8) : bits .and .i64 (x : Int) ((2 ^ k - 1 : Nat) : Int) = ((x % 2 ^ k : Nat) : Int) := by
  have hp : 2 ^ k ≤ 256 := by
    have := Nat.pow_le_pow_right (n := 2) (by omega) hk
    exact this
  have hp0 : 0 < 2 ^ k := Nat.pow_pos (by omega)
  have e : bits .and .i64 (x : Int) ((2 ^ k - 1 : Nat) : Int) = IntKind.i64.wrap ((BitVec.ofInt 64 (x : Int) &&& BitVec.ofInt 64 ((2 ^ k - 1 : Nat) : Int)).toNat : Int) := rfl
  rw [e, BitVec.ofInt_natCast, BitVec.ofInt_natCast, BitVec.toNat_and, BitVec.toNat_ofNat, BitVec.toNat_ofNat, Nat.mod_eq_of_lt (by omega), Nat.mod_eq_of_lt (by omega), Nat.and_two_pow_sub_one_eq_mod]
  have hm : x % 2 ^ k < 2 ^ k := Nat.mod_lt _ hp0
  rw [IntWalk.i64_in _ (by omega)]

theorem div_byte (x j : Nat) : ((x : Int) / 2 ^ j) = ((x / 2 ^ j : Nat) : Int) := by
  rw [Int.natCast_ediv, Int.natCast_pow]
  rfl

/-- What the digits' functions want: a place in the text, bits within a byte. -/
structure DigitMay (w i size : Nat) : Prop where
  w1 : 1 ≤ w
  w8 : w ≤ 8
  i1 : i ≤ 1000000
  at1 : i * w / 8 < size
  fit : w + i * w % 8 ≤ 8

set_option maxHeartbeats 1000000 in
theorem refDigit_any (s : ByteArray) (i w : Nat) (h : DigitMay w i s.size) (W : World) :
    Calls Tryz.prog 92 #[.string s, .int .i64 (i : Int), .int .i64 (w : Int)] W fun e w' => e = .returned (.int .i64 (Ots.digit s.data.toList i w : Int)) ∧ ∃ m, w' = W.drewN m := by
  obtain ⟨h1, h8, hi, hat, hfit⟩ := h
  obtain ⟨a, ha⟩ : ∃ a, i * w = a := ⟨_, rfl⟩
  have haB : a ≤ 8000000 := by
    rw [← ha]
    have := Nat.mul_le_mul hi h8
    omega
  have e0 : (i : Int) * (w : Int) = (a : Int) := by rw [← ha, Int.natCast_mul]
  rw [ha] at hat hfit
  have s0 := IntWalk.i64_in (a : Int) (by omega)
  have e1 : (a : Int) / 8 = ((a / 8 : Nat) : Int) := by omega
  have e2 : (a : Int).tmod 8 = ((a % 8 : Nat) : Int) := by rw [Int.tmod_eq_emod_of_nonneg (by omega)]; omega
  obtain ⟨q, hq⟩ : ∃ q, a / 8 = q := ⟨_, rfl⟩
  obtain ⟨r, hr⟩ : ∃ r, a % 8 = r := ⟨_, rfl⟩
  rw [hq] at e1 hat
  rw [hr] at e2 hfit
  have hix := str_byte s q hat (q : Int) rfl
  obtain ⟨x, hx⟩ : ∃ x, s.data.toList.getD q 0 = x := ⟨_, rfl⟩
  rw [hx] at hix
  have hxl := x.toNat_lt
  have s1 := IntWalk.i64_in (8 - (w : Int)) (by omega)
  have s2 := IntWalk.i64_in (8 - (w : Int) - (r : Int)) (by omega)
  have e3 : (8 - (w : Int) - (r : Int)).toNat = 8 - w - r := by omega
  have e4 : 0 ≤ 8 - (w : Int) - (r : Int) := by omega
  have hm := mask_and (x.toNat / 2 ^ (8 - w - r)) w (Nat.lt_of_le_of_lt (Nat.div_le_self _ _) (by omega)) h8
  have ht := top_wrap w h8
  have hd : Ots.digit s.data.toList i w = x.toNat / 2 ^ (8 - w - r) % 2 ^ w := by
    unfold Ots.digit
    rw [ha, hq, hr, hx]
  have hd' := hid hd
  rw [← div_byte] at hm
  clear hd ha hq hr hx
  go_enter Tryz.func92, Tryz.ntmps92
  go_wp2
  go_quiet (fail)
  go_wp2
  go_ret
  exact ⟨congrArg (fun x => Ending.returned (.int .i64 x)) (by rw [hd'.out, Int.natCast_emod, Int.natCast_ediv, Int.natCast_pow, Int.natCast_pow]; rfl), _, rfl⟩

set_option maxHeartbeats 1000000 in
theorem digit_any (o : Ots.Par) (s : ByteArray) (i : Nat) (h : DigitMay o.w i s.size) (W : World) :
    Calls Tryz.prog 90 #[.agg (parC o), .string s, .int .i64 (i : Int)] W fun e w' => e = .returned (.int .i64 (Ots.digit s.data.toList i o.w : Int)) ∧ Below W.heap.size W w' := by
  obtain ⟨h1, h8, hi, hat, hfit⟩ := h
  have hst := hid (fun w => Steps_any o h8 w)
  have htop : o.top = 2 ^ o.w - 1 := rfl
  rw [htop] at hst
  unfold parC at hst ⊢
  generalize o.w = ow at *
  generalize o.p = op at *
  generalize o.ls = ol at *
  obtain ⟨a, ha⟩ : ∃ a, i * ow = a := ⟨_, rfl⟩
  have haB : a ≤ 8000000 := by
    rw [← ha]
    have := Nat.mul_le_mul hi h8
    omega
  have e0 : (i : Int) * (ow : Int) = (a : Int) := by rw [← ha, Int.natCast_mul]
  rw [ha] at hat hfit
  have s0 := IntWalk.i64_in (a : Int) (by omega)
  have e1 : (a : Int) / 8 = ((a / 8 : Nat) : Int) := by omega
  have e2 : (a : Int).tmod 8 = ((a % 8 : Nat) : Int) := by rw [Int.tmod_eq_emod_of_nonneg (by omega)]; omega
  obtain ⟨q, hq⟩ : ∃ q, a / 8 = q := ⟨_, rfl⟩
  obtain ⟨r, hr⟩ : ∃ r, a % 8 = r := ⟨_, rfl⟩
  rw [hq] at e1 hat
  rw [hr] at e2 hfit
  have hix := str_byte s q hat (q : Int) rfl
  obtain ⟨x, hx⟩ : ∃ x, s.data.toList.getD q 0 = x := ⟨_, rfl⟩
  rw [hx] at hix
  have hxl := x.toNat_lt
  have hat' : (q : Int) < (s.size : Int) := by omega
  have s3 := IntWalk.i64_in (q : Int) (by omega)
  have s4 := IntWalk.i64_in (x.toNat : Int) (by omega)
  have hsx : s[q]'hat = x := by
    rw [← hx]
    have h1 : q < s.data.size := hat
    simp only [ByteArray.getElem_eq_getElem_data, List.getD]
    rw [Array.getElem?_toList, Array.getElem?_eq_getElem h1]
    rfl
  have s1 := IntWalk.i64_in (8 - (ow : Int)) (by omega)
  have s2 := IntWalk.i64_in (8 - (ow : Int) - (r : Int)) (by omega)
  have e3 : (8 - (ow : Int) - (r : Int)).toNat = 8 - ow - r := by omega
  have e4 : 0 ≤ 8 - (ow : Int) - (r : Int) := by omega
  have hm := mask_and (x.toNat / 2 ^ (8 - ow - r)) ow (Nat.lt_of_le_of_lt (Nat.div_le_self _ _) (by omega)) h8
  have hd : Ots.digit s.data.toList i ow = x.toNat / 2 ^ (8 - ow - r) % 2 ^ ow := by
    unfold Ots.digit
    rw [ha, hq, hr, hx]
  have hd' := hid hd
  rw [← div_byte] at hm
  clear hd ha hq hr hx htop
  have hH := Holds.new W 54 #[.int .i64 (ow : Int), .int .i64 (op : Int), .int .i64 (ol : Int)]
  have hb1 : Below W.heap.size W (W.alloc (.cells #[.int .i64 (ow : Int), .int .i64 (op : Int), .int .i64 (ol : Int)] 54)) := (Below.refl _ _).alloc (Nat.le_refl _) _
  obtain ⟨W1, hW1⟩ : ∃ W1, W.alloc (.cells #[.int .i64 (ow : Int), .int .i64 (op : Int), .int .i64 (ol : Int)] 54) = W1 := ⟨_, rfl⟩
  rw [hW1] at hH hb1
  have hW1' := hid hW1
  have hS : ∀ w', Below W1.heap.size W1 w' → Below W1.heap.size W1 w' ∧ w'.cell? ⟨W.heap.size, 0, none⟩ = some (.int .i64 (ow : Int)) ∧ w'.cell? ⟨W.heap.size, 1, none⟩ = some (.int .i64 (op : Int)) ∧ w'.cell? ⟨W.heap.size, 2, none⟩ = some (.int .i64 (ol : Int)) := fun w' h =>
    ⟨h, (hH.below h hH.lt).cell 0, (hH.below h hH.lt).cell 1, (hH.below h hH.lt).cell 2⟩
  have c0 := (hS W1 (Below.refl _ _)).2.1
  have hS' := hid hS
  have hb1' := hid hb1
  clear hW1 hH hS hb1
  go_enter Tryz.func90, Tryz.ntmps90
  go_wp2_with ((with_reducible refine at_slot (some 3) ?_); refine wpList_run rfl (.pointer (some ⟨W.heap.size, 0, none⟩)) (W.alloc (.cells #[.int .i64 (ow : Int), .int .i64 (op : Int), .int .i64 (ol : Int)] 54)) (by kernel_rfl) ?_; rw [hW1'.out])
  go_region_held3 (fun w' => Below W1.heap.size W1 w' ∧ w'.cell? ⟨W.heap.size, 0, none⟩ = some (.int .i64 (ow : Int)) ∧ w'.cell? ⟨W.heap.size, 1, none⟩ = some (.int .i64 (op : Int)) ∧ w'.cell? ⟨W.heap.size, 2, none⟩ = some (.int .i64 (ol : Int)))
    (first | assumption | exact hS'.out _ (Below.refl _ _).drew | exact hS'.out _ (below_up (by assumption) (And.left (by assumption))))
    (first
      | (go_at_call 69; refine (hst.out _).mono ?_; rintro e w' ⟨rfl, hb⟩))
  all_goals
    rename_i zH
    have hH2 := hid (below_up zH.1 hb1'.out)
    clear zH
    go_wp2
    go_ret
    exact ⟨congrArg (fun x => Ending.returned (.int .i64 x)) (by rw [hd'.out]; first | exact hm | rfl | (rw [← hm]; rfl)), hH2.out⟩

end Go.Proofs.YtmfajekfipfjpaaGreat
namespace Go.Proofs.YtmfajekfipfjpaaGreat
open Go.RowKit
open Go.Lib (strCells strCells_length strCells_oneCell)
attribute [local irreducible] Sha.compress Sha.blocks Sha.sha Sha.pad

set_option maxHeartbeats 1000000 in
theorem hash_any (A : Option Addr) (n c : Nat) (xs : List ByteArray) (w : World) (hX : Texts w w.heap.size A n xs) (hn : n ≤ 100) (hs : totS xs ≤ 1000000000000) :
    Calls Tryz.prog 89 #[.slice A n c] w fun e w' => e = .returned (hashV (joinS xs)) ∧ Below w.heap.size w w' := by
  obtain ⟨W1, hW1⟩ : ∃ W1, w.alloc (.cells z32 60) = W1 := ⟨_, rfl⟩
  have hH1 : Holds W1 w.heap.size 60 z32.toList := by rw [← hW1]; exact Holds.new w _ _
  have hb1 : Below w.heap.size w W1 := by rw [← hW1]; exact (Below.refl _ _).alloc (Nat.le_refl _) _
  have hs1 : W1.heap.size = w.heap.size + 1 := by rw [← hW1]; simp
  obtain ⟨W2, hW2⟩ : ∃ W2, W1.alloc (.cells zeroDig 142) = W2 := ⟨_, rfl⟩
  have hd2 : Dig W2 (w.heap.size + 1) [] := by rw [← hW2, ← hs1]; exact dig_new W1
  have hH2 : Holds W2 w.heap.size 60 z32.toList := by rw [← hW2]; exact hH1.alloc _
  have hb2 : Below w.heap.size w W2 := by rw [← hW2]; exact hb1.alloc hb1.size _
  have hW1' := hid hW1
  have hW2' := hid hW2
  have hs1' := hid hs1
  have hd2' := hid hd2
  have hH2' := hid hH2
  have hb2' := hid hb2
  have hX' := hid hX
  have hlen := hid hX.len
  clear hW1 hW2 hs1 hd2 hH2 hb2 hX hb1 hH1
  go_enter Tryz.func89, Tryz.ntmps89
  go_wp2_with (first
    | ((with_reducible refine at_slot (some 2) ?_); refine wpList_run rfl (.pointer (some ⟨w.heap.size, 0, none⟩)) (w.alloc (.cells z32 60)) (by kernel_rfl) ?_; rw [hW1'.out])
    | ((with_reducible refine at_slot (some 3) ?_); refine wpList_run rfl (.pointer (some ⟨W1.heap.size, 0, none⟩)) (W1.alloc (.cells zeroDig 142)) (by kernel_rfl) ?_; rw [hW2'.out, hs1'.out]))
  go_loopw [8] (fun i wr => ∃ k : Nat, k ≤ n ∧ i = .int .i64 (k : Int) ∧ Dig wr (w.heap.size + 1) (joinS (xs.take k)) ∧ Holds wr w.heap.size 60 z32.toList ∧ Below w.heap.size w wr) (fun i _ => n - (intOf i).toNat)
  case atStart => exact ⟨0, Nat.zero_le _, rfl, hd2'.out, hH2'.out, hb2'.out⟩
  case round =>
    obtain ⟨k, hk, rfl, hd, hh, hB⟩ := hrel
    by_cases hlt : k < n
    · obtain ⟨p, rfl, hpb, x, hxm, hx, hcell0⟩ := hX'.out.get hlt
      have hcell := (hB.cell (by rw [add_block]; exact hpb)).trans hcell0
      have hxs := totS_size hxm
      have hnx := hid (joinS_next hx)
      have htl : (joinS (xs.take k)).length ≤ 1000000000000 := by rw [joinS_length]; exact Nat.le_trans (totS_take xs k) hs
      have hkn : (k : Int) < (n : Int) := by omega
      have hd' := hid hd
      have hh' := hid hh
      have hB' := hid hB
      have htl' := hid htl
      clear hd hh hB htl hx hcell0
      go_wp2_with fail
      refine (write_any (w.heap.size + 1) _ x _ hd'.out (by have := htl'.out; omega)).mono ?_
      rintro e W3 ⟨rfl, hd3, hg⟩
      rw [← hnx.out] at hd3
      have hh3 := hid (hh'.out.grown hg (fun e => by have := Option.some.inj e; omega))
      have hB3 := hid (hB'.out.grown hg hB'.out.size (fun k e => by have := Option.some.inj e; omega))
      have hd3' := hid hd3
      clear hd3 hg
      go_wp2_with fail
      go_roundw
      case rel => exact ⟨k + 1, by omega, by go_num, hd3'.out, hh3.out, hB3.out⟩
      case measure => simp [intOf]; omega
    · obtain rfl : k = n := by omega
      have e : xs.take k = xs := List.take_of_length_le (by rw [hlen.out]; exact Nat.le_refl _)
      rw [e] at hd
      have htl : (joinS xs).length < 1152921504606846976 := by rw [joinS_length]; omega
      have hd' := hid hd
      have hh' := hid hh
      have hB' := hid hB
      clear hd hh hB
      go_wp2_with fail
      refine (dsum_any (w.heap.size + 1) _ _ hd'.out htl).mono ?_
      rintro e W3 ⟨rfl, hb3⟩
      have hh3 := hh'.out.below hb3 hh'.out.lt
      obtain ⟨hth, hrs⟩ := hash_ret (joinS xs) hh3
      have hb4 := below_setCells (hB'.out.trans (hb3.mono hB'.out.size)) w.heap.size 0 (byteCells (Sha.sha (joinS xs))) (Nat.le_refl _)
      have h1c := all_oneCell_toArray (byteCells_one (Sha.sha (joinS xs)))
      have hrs' := hid hrs
      have hb4' := hid hb4
      clear hrs hb4 hh3
      rename_i hK1
      refine hK1 _ _ ?_
      refine wpList_store_mid rfl 60 (.tmp 2) (.tmp 15) rfl w.heap.size 0 (byteCells (Sha.sha (joinS xs))).toArray rfl rfl (by exact hth) (by exact hash_size _) (by exact h1c) ?_
      generalize hW4 : World.setCells _ _ _ _ = W4
      have e4 : W3.setCells w.heap.size 0 (byteCells (Sha.sha (joinS xs))) = W4 := hW4
      rw [e4] at hrs' hb4'
      clear hW4 e4 hth h1c
      go_wp2
      exact bodyPost_ret (results_cell_row rfl _ _ w.heap.size 60 _ (0, 0) _ rfl hrs'.out Tryz.underlying60 rfl (by exact hash_size _)) rfl ⟨rfl, hb4'.out⟩

end Go.Proofs.YtmfajekfipfjpaaGreat
namespace Go.Proofs.YtmfajekfipfjpaaGreat
open Go.RowKit
open Go.Lib (strCells strCells_length strCells_oneCell)
attribute [local irreducible] Sha.compress Sha.blocks Sha.sha Sha.pad

theorem joinS4 (a b c d : ByteArray) : joinS [a, b, c, d] = a.data.toList ++ (b.data.toList ++ (c.data.toList ++ d.data.toList)) := by
  simp [joinS]

theorem totS4 (a b c d : ByteArray) : totS [a, b, c, d] = a.size + (b.size + (c.size + d.size)) := by
  have h := joinS_length [a, b, c, d]
  rw [joinS4, List.length_append, List.length_append, List.length_append, data_length, data_length, data_length, data_length] at h
  exact h.symm

theorem joinS_priv (head seed : ByteArray) (i : Nat) : Sha.sha (joinS [head, be 2 i, be 1 255, seed]) = Ots.priv head.data.toList i seed.data.toList := by
  have e : joinS [head, be 2 i, be 1 255, seed] = head.data.toList ++ beL 2 i ++ [255] ++ seed.data.toList := by
    rw [joinS4, List.append_assoc, List.append_assoc]
    rfl
  rw [e]
  rfl

theorem joinS_step (head x : ByteArray) (i j : Nat) : Sha.sha (joinS [head, be 2 i, be 1 j, x]) = Ots.step head.data.toList i j x.data.toList := by
  have e : joinS [head, be 2 i, be 1 j, x] = head.data.toList ++ beL 2 i ++ beL 1 j ++ x.data.toList := by
    rw [joinS4, List.append_assoc, List.append_assoc]
    rfl
  rw [e]
  rfl

theorem hash4 (a b c d : ByteArray) (w w0 : World) (n : Nat) (he : w0 = w.alloc (.cells #[.string a, .string b, .string c, .string d] 9)) (hs : a.size + (b.size + (c.size + d.size)) ≤ 1000000000000) :
    Calls Tryz.prog 89 #[.slice (some ⟨w.heap.size, 0, none⟩) 4 n] w0 fun e w' => e = .returned (hv (Sha.sha (joinS [a, b, c, d]))) ∧ Below w.heap.size w w' := by
  subst he
  have hX := Texts.new w [a, b, c, d] #[.string a, .string b, .string c, .string d] rfl 4 rfl 9
  refine (hash_any _ 4 n _ _ hX (by decide) (by rw [totS4]; exact hs)).mono ?_
  rintro e w' ⟨rfl, hb⟩
  have hb0 : Below w.heap.size w (w.alloc (.cells #[.string a, .string b, .string c, .string d] 9)) := (Below.refl _ _).alloc (Nat.le_refl _) _
  exact ⟨rfl, hb0.trans (hb.mono hb0.size)⟩

set_option maxHeartbeats 1000000 in
theorem private_any (head seed : ByteArray) (i : Nat) (w : World) (hh : head.size ≤ 1000) (hs : seed.size ≤ 1000000) :
    Calls Tryz.prog 63 #[.string head, .int .i64 (i : Int), .string seed] w fun e w' => e = .returned (hv (Ots.priv head.data.toList i seed.data.toList)) ∧ Below w.heap.size w w' := by
  obtain ⟨W1, hW1⟩ : ∃ W1, w.alloc (.cells z32 60) = W1 := ⟨_, rfl⟩
  have hH1 : Holds W1 w.heap.size 60 z32.toList := by rw [← hW1]; exact Holds.new w _ _
  have hb1 : Below w.heap.size w W1 := by rw [← hW1]; exact (Below.refl _ _).alloc (Nat.le_refl _) _
  have hW1' := hid hW1
  have hH1' := hid hH1
  have hb1' := hid hb1
  have hx := joinS_priv head seed i
  have hol : (Ots.priv head.data.toList i seed.data.toList).length = 32 := sha_len32 _
  unfold hv
  generalize Ots.priv head.data.toList i seed.data.toList = out at *
  have hx' := hid hx
  clear hW1 hH1 hb1 hx
  go_enter Tryz.func63, Tryz.ntmps63
  go_wp2_with ((with_reducible refine at_slot (some 6) ?_); refine wpList_run rfl (.pointer (some ⟨w.heap.size, 0, none⟩)) (w.alloc (.cells z32 60)) (by kernel_rfl) ?_; rw [hW1'.out])
  refine (U16_any i _).mono ?_
  rintro e W2 ⟨rfl, hb2⟩
  have hb2' := hid hb2
  clear hb2
  go_wp2_with fail
  refine (U8_any 255 _).mono ?_
  rintro e W3 ⟨rfl, hb3⟩
  have hb3' := hid hb3
  clear hb3
  go_wp2_with fail
  refine (hash4 head (be 2 i) (be 1 255) seed W3 _ _ rfl (by rw [be_size, be_size]; omega)).mono ?_
  rintro e W4 ⟨rfl, hb4⟩
  rw [hx'.out]
  unfold hv
  have hbA := hid (below_up hb4 (below_up hb3'.out (below_up hb2'.out (Below.refl W1.heap.size W1))))
  have hth := hv_put out rfl (hH1'.out.below hbA.out hH1'.out.lt) hol
  have hb5 := hid (below_setCells (hb1'.out.trans (hbA.out.mono hb1'.out.size)) w.heap.size 0 (byteCells out) (Nat.le_refl _))
  have hsz := hv_size out hol
  have h1c := all_oneCell_toArray (byteCells_one out)
  have hrs' := hid hth.2
  have hth' := hth.1
  clear hb4 hth
  rename_i hK1
  refine hK1 _ _ ?_
  refine wpList_store_mid rfl 60 (.tmp 6) (.tmp 13) rfl w.heap.size 0 (byteCells out).toArray rfl rfl (by exact hth') (by exact hsz) (by exact h1c) ?_
  generalize hW5 : World.setCells _ _ _ _ = W5
  have e5 : W4.setCells w.heap.size 0 (byteCells out) = W5 := hW5
  rw [e5] at hrs' hb5
  clear hW5 e5 hth' h1c
  go_wp2
  exact bodyPost_ret (results_cell_row rfl _ _ w.heap.size 60 _ (0, 0) _ rfl hrs'.out Tryz.underlying60 rfl (by exact hsz)) rfl ⟨rfl, hb5.out⟩

end Go.Proofs.YtmfajekfipfjpaaGreat
namespace Go.Proofs.YtmfajekfipfjpaaGreat
open Go.RowKit
open Go.Lib (strCells strCells_length strCells_oneCell)
attribute [local irreducible] Sha.compress Sha.blocks Sha.sha Sha.pad

theorem step_len (head : List UInt8) (i j : Nat) (x : List UInt8) : (Ots.step head i j x).length = 32 := sha_len32 _

theorem steps_len (head : List UInt8) (i f : Nat) (x : List UInt8) (hx : x.length = 32) : ∀ m, (Ots.steps head i f m x).length = 32
  | 0 => hx
  | _ + 1 => step_len _ _ _ _

/-- The value's cell, written anew. -/
theorem put_next {w wr w' : World} {vk vn : List UInt8} (hd : Holds wr w.heap.size 60 (byteCells vk)) (hz : Holds wr (w.heap.size + 1) 60 z32.toList) (hB : Below w.heap.size w wr) (hb : Below wr.heap.size wr w')
    (hk : vk.length = 32) (hn : vn.length = 32) :
    (storeCells ⟨w.heap.size, 0, none⟩ (byteCells vn)).run Tryz.prog w' = .ok () (w'.setCells w.heap.size 0 (byteCells vn)) ∧ Holds (w'.setCells w.heap.size 0 (byteCells vn)) w.heap.size 60 (byteCells vn)
      ∧ Holds (w'.setCells w.heap.size 0 (byteCells vn)) (w.heap.size + 1) 60 z32.toList ∧ Below w.heap.size w (w'.setCells w.heap.size 0 (byteCells vn)) := by
  have h1 := hv_put vn (by rw [byteCells, List.length_map, hk]) (hd.below hb hd.lt) hn
  have hs := run_storeCells_cells (P := Tryz.prog) w.heap.size 0 (byteCells vn) 0 w' (fun j hj => (h1.1 j (by simpa using hj)).1) (fun j hj => (h1.1 j (by simpa using hj)).2) (byteCells_one vn)
  exact ⟨hs, h1.2, Holds.fars (hz.below hb hz.lt) _ _ _ (by omega), below_setCells (hB.trans (hb.mono hB.size)) _ _ _ (Nat.le_refl _)⟩

set_option maxHeartbeats 1000000 in
theorem walk_any (head : ByteArray) (i f t : Nat) (v : List UInt8) (w : World) (hv32 : v.length = 32) (hh : head.size ≤ 1000) (ht : t ≤ 1000) (hf : f ≤ 1000) :
    Calls Tryz.prog 65 #[.string head, .int .i64 (i : Int), .int .i64 (f : Int), .int .i64 (t : Int), hv v] w fun e w' => e = .returned (hv (Ots.steps head.data.toList i f (t - f) v)) ∧ Below w.heap.size w w' := by
  obtain ⟨W1, hW1⟩ : ∃ W1, w.alloc (.cells (byteCells v).toArray 60) = W1 := ⟨_, rfl⟩
  have hH1 : Holds W1 w.heap.size 60 (byteCells v) := by rw [← hW1]; exact Holds.new w _ _
  have hb1 : Below w.heap.size w W1 := by rw [← hW1]; exact (Below.refl _ _).alloc (Nat.le_refl _) _
  have hs1 : W1.heap.size = w.heap.size + 1 := by rw [← hW1]; simp
  obtain ⟨W2, hW2⟩ : ∃ W2, W1.alloc (.cells z32 60) = W2 := ⟨_, rfl⟩
  have hH2 : Holds W2 w.heap.size 60 (byteCells v) := by rw [← hW2]; exact hH1.alloc _
  have hZ2 : Holds W2 (w.heap.size + 1) 60 z32.toList := by rw [← hW2, ← hs1]; exact Holds.new W1 _ _
  have hb2 : Below w.heap.size w W2 := by rw [← hW2]; exact hb1.alloc hb1.size _
  have hW1' := hid hW1
  have hW2' := hid hW2
  have hs1' := hid hs1
  have hH2' := hid hH2
  have hZ2' := hid hZ2
  have hb2' := hid hb2
  clear hW1 hW2 hs1 hH2 hZ2 hb2 hb1 hH1
  have hsl : ∀ k, (Ots.steps head.data.toList i f k v).length = 32 := steps_len _ _ _ _ hv32
  have hnx : ∀ k, Sha.sha (joinS [head, be 2 i, be 1 (f + k), txt (Ots.steps head.data.toList i f k v)]) = Ots.steps head.data.toList i f (k + 1) v := fun k => by
    rw [joinS_step, txt_list]
    rfl
  have h0 : Ots.steps head.data.toList i f 0 v = v := rfl
  unfold hv
  generalize Ots.steps head.data.toList i f = st at *
  have hsl' := hid hsl
  have hnx' := hid hnx
  have h0' := hid h0
  clear hsl hnx h0
  go_enter Tryz.func65, Tryz.ntmps65
  go_wp2_with (first
    | ((with_reducible refine at_slot (some 9) ?_); refine wpList_run rfl (.pointer (some ⟨w.heap.size, 0, none⟩)) (w.alloc (.cells (byteCells v).toArray 60)) (by kernel_rfl) ?_; rw [hW1'.out])
    | ((with_reducible refine at_slot (some 10) ?_); refine wpList_run rfl (.pointer (some ⟨W1.heap.size, 0, none⟩)) (W1.alloc (.cells z32 60)) (by kernel_rfl) ?_; rw [hW2'.out, hs1'.out]))
  go_loopw [11] (fun j wr => ∃ k : Nat, k ≤ t - f ∧ j = .int .i64 ((f + k : Nat) : Int) ∧ Holds wr w.heap.size 60 (byteCells (st k v)) ∧ Holds wr (w.heap.size + 1) 60 z32.toList ∧ Below w.heap.size w wr) (fun j _ => t - (intOf j).toNat)
  case atStart => exact ⟨0, Nat.zero_le _, rfl, by rw [h0'.out]; exact hH2'.out, hZ2'.out, hb2'.out⟩
  case round =>
    obtain ⟨k, hk, rfl, hd, hz, hB⟩ := hrel
    by_cases hlt : f + k < t
    · have hlt' : ((f + k : Nat) : Int) < (t : Int) := by omega
      have hcv0 := fun (w' : World) (hb : Below wr.heap.size wr w') => hv_text (st k v) (hsl'.out k) w' w.heap.size (hd.below hb hd.lt)
      have hcvw := hcv0 wr.drew (Below.refl _ _).drew
      have hbw : Below wr.heap.size wr wr.drew := (Below.refl _ _).drew
      have hkk := hid (hnx'.out k)
      have hcl : (byteCells (st (k + 1) v)).length = 32 := by rw [byteCells, List.length_map, hsl'.out]
      have hd' := hid hd
      have hz' := hid hz
      have hB' := hid hB
      have hcv0' := hid hcv0
      have hsum := IntWalk.i64_in (((f + k : Nat) : Int) + 1) (by omega)
      have hbs := be_size 2 i
      have hbs2 := be_size 1 (f + k)
      have hts : (txt (st k v)).size = 32 := by rw [txt_size, hsl'.out k]
      have hsz := hv_size (st (k + 1) v) (hsl'.out _)
      have h1c := all_oneCell_toArray (byteCells_one (st (k + 1) v))
      have hle := hid (hsl'.out (k + 1))
      have hlk := hid (hsl'.out k)
      clear hd hz hB hcv0
      generalize hj : f + k = j at *
      generalize hvn : st (k + 1) v = vn at *
      generalize st k v = vk at *
      go_wp2_with fail
      go_region_with (first
        | (go_at_call 72; refine (U16_any i _).mono ?_; rintro e w' ⟨rfl, hb⟩; have hbB := below_up hb (by assumption); have hcv := hcv0'.out _ hbB)
        | (go_at_call 85; refine (U8_any j _).mono ?_; rintro e w' ⟨rfl, hb⟩; have hbB := below_up hb (by assumption); have hcv := hcv0'.out _ hbB)
        | (go_at_call 89; refine (hash4 head (be 2 i) (be 1 j) (txt vk) _ _ _ rfl ?_).mono ?_
           · rw [hbs, hbs2, hts]; omega
           rintro e w' ⟨rfl, hb⟩
           rw [hkk.out]
           unfold hv
           have hbB := below_up hb (by assumption)
           have hnew := hid (put_next hd'.out hz'.out hB'.out hbB hlk.out hle.out)
           have hst := hnew.out.1))
      all_goals
        rename_i hnew hst
        clear hst
        obtain ⟨-, hn1, hn2, hn3⟩ := hnew.out
        generalize World.setCells _ _ _ _ = W5 at *
        have hn1' := hid hn1
        have hn2' := hid hn2
        have hn3' := hid hn3
        clear hn1 hn2 hn3 hnew
        go_wp2_with fail
        go_roundw
        case rel => exact ⟨k + 1, by omega, by go_num, by rw [hvn]; exact hn1'.out, hn2'.out, hn3'.out⟩
        case measure => simp [intOf]; omega
    · obtain rfl : k = t - f := by omega
      have hle := hsl'.out (t - f)
      have hsz := hv_size (st (t - f) v) hle
      have h1c := all_oneCell_toArray (byteCells_one (st (t - f) v))
      have hth := hv_put (st (t - f) v) rfl hz hle
      have hb5 := hid (below_setCells hB (w.heap.size + 1) 0 (byteCells (st (t - f) v)) (Nat.le_succ _))
      have hr := h_all hd
      have hu := Tryz.underlying60
      have hi : (Tryz.prog.info? 60).map (·.size) = some (byteCells (st (t - f) v)).length := by rw [hsz, List.size_toArray]
      have hrs' := hid hth.2
      have hth' := hth.1
      clear hth hd hz hB
      generalize hout : st (t - f) v = out at *
      have hno : ¬ ((f + (t - f) : Nat) : Int) < (t : Int) := by omega
      go_wp2_with (first
        | ((with_reducible refine at_slot (some 27) ?_); refine wpList_load_mid rfl 60 (.tmp 9) rfl w.heap.size 0 rfl (byteCells out) _ (by exact hr) hu rfl (by exact hi) ?_)
        | ((with_reducible refine at_slot none ?_); refine wpList_store_mid rfl 60 (.tmp 10) (.tmp 27) rfl (w.heap.size + 1) 0 (byteCells out).toArray rfl rfl (by exact hth') (by exact hsz) (by exact h1c) ?_; generalize hW5 : World.setCells _ _ _ _ = W5))
      have e5 : wr.setCells (w.heap.size + 1) 0 (byteCells out) = W5 := hW5
      rw [e5] at hrs' hb5
      exact bodyPost_ret (results_cell_row rfl _ _ (w.heap.size + 1) 60 _ (0, 0) _ rfl hrs'.out Tryz.underlying60 rfl (by exact hsz)) rfl ⟨by first | rfl | (rw [hout]), hb5.out⟩

end Go.Proofs.YtmfajekfipfjpaaGreat
namespace Go.Proofs.YtmfajekfipfjpaaGreat
open Go.RowKit
open Go.Lib (strCells strCells_length strCells_oneCell)
attribute [local irreducible] Sha.compress Sha.blocks Sha.sha Sha.pad

/-- The text so far. -/
def joinL (head : List UInt8) (xs : List (List UInt8)) : List UInt8 := head ++ [0x80, 0x80] ++ xs.flatten

theorem joinL_next {head : List UInt8} {xs : List (List UInt8)} {k : Nat} {x : List UInt8} (h : xs[k]? = some x) : joinL head (xs.take (k + 1)) = joinL head (xs.take k) ++ x := by
  have e : xs.take (k + 1) = xs.take k ++ [x] := by rw [List.take_add_one, h]; rfl
  unfold joinL
  rw [e, List.flatten_append]
  simp

theorem joinL_length (head : List UInt8) (xs : List (List UInt8)) (h : ∀ x ∈ xs, x.length = 32) : (joinL head xs).length = head.length + 2 + 32 * xs.length := by
  have e : xs.flatten.length = 32 * xs.length := by
    have := hashCells_length xs h
    rw [← this]
    unfold hashCells
    rw [List.length_flatten, List.length_flatMap]
    congr 1
    refine List.map_congr_left fun x _ => ?_
    rw [byteCells, List.length_map]
  unfold joinL
  rw [List.length_append, List.length_append, e]
  rfl

set_option maxHeartbeats 1000000 in
theorem gather_any (head : ByteArray) (g n c : Nat) (xs : List (List UInt8)) (w : World) (hE : Ends w g n xs) (hg : g < w.heap.size) (hn : n ≤ 100) (hh : head.size ≤ 1000) :
    Calls Tryz.prog 70 #[.string head, .slice (some ⟨g, 0, none⟩) n c] w fun e w' => e = .returned (hv (Ots.gather head.data.toList xs)) ∧ Below w.heap.size w w' := by
  obtain ⟨W1, hW1⟩ : ∃ W1, w.alloc (.cells z32 60) = W1 := ⟨_, rfl⟩
  have hH1 : Holds W1 w.heap.size 60 z32.toList := by rw [← hW1]; exact Holds.new w _ _
  have hb1 : Below w.heap.size w W1 := by rw [← hW1]; exact (Below.refl _ _).alloc (Nat.le_refl _) _
  have hs1 : W1.heap.size = w.heap.size + 1 := by rw [← hW1]; simp
  have hW1' := hid hW1
  have hH1' := hid hH1
  have hb1' := hid hb1
  have hs1' := hid hs1
  have hE' := hid hE
  have hgl : Ots.gather head.data.toList xs = Sha.sha (joinL head.data.toList xs) := rfl
  rw [hgl]
  have hlen := hid hE.len
  have hhl := data_length head
  clear hW1 hH1 hb1 hs1 hE hgl
  go_enter Tryz.func70, Tryz.ntmps70
  go_wp2_with ((with_reducible refine at_slot (some 4) ?_); refine wpList_run rfl (.pointer (some ⟨w.heap.size, 0, none⟩)) (w.alloc (.cells z32 60)) (by kernel_rfl) ?_; rw [hW1'.out])
  refine (new_any _).mono ?_
  rintro e W2 ⟨a, rfl, hal, hd2, hb2⟩
  have hH2 := hid (Holds.below hH1'.out hb2 hH1'.out.lt)
  have hB2 := hid (hb1'.out.trans (hb2.mono hb1'.out.size))
  rw [hs1'.out] at hal
  have hd2' := hid hd2
  clear hd2 hb2
  go_wp2_with fail
  refine (write_any a _ head _ hd2'.out (by simp; omega)).mono ?_
  rintro e W3 ⟨rfl, hd3, hg3⟩
  have hH3 := hid (hH2.out.grown hg3 (fun e => by have := Option.some.inj e; omega))
  have hB3 := hid (hB2.out.grown hg3 hB2.out.size (fun k e => by have := Option.some.inj e; omega))
  have hd3' := hid hd3
  clear hd3 hg3
  go_wp2_with fail
  refine (U16_any 32896 _).mono ?_
  rintro e W4 ⟨rfl, hb4⟩
  have hd4 := hid (hd3'.out.below hb4 hd3'.out.lt)
  have hH4 := hid (hH3.out.below hb4 hH3.out.lt)
  have hB4 := hid (hB3.out.trans (hb4.mono hB3.out.size))
  clear hb4
  go_wp2_with fail
  refine (write_any a _ (be 2 32896) _ hd4.out (by rw [be_size]; simp; omega)).mono ?_
  rintro e W5 ⟨rfl, hd5, hg5⟩
  have hH5 := hid (hH4.out.grown hg5 (fun e => by have := Option.some.inj e; omega))
  have hB5 := hid (hB4.out.grown hg5 hB4.out.size (fun k e => by have := Option.some.inj e; omega))
  have e5 : [] ++ head.data.toList ++ (be 2 32896).data.toList = joinL head.data.toList (xs.take 0) := by
    unfold joinL
    rw [List.take_zero, List.flatten_nil, List.append_nil, List.nil_append]
    rfl
  rw [e5] at hd5
  have hd5' := hid hd5
  clear hd5 hg5 e5
  go_wp2_with fail
  go_loopw [17] (fun i wr => ∃ k : Nat, k ≤ n ∧ i = .int .i64 (k : Int) ∧ Dig wr a (joinL head.data.toList (xs.take k)) ∧ Holds wr w.heap.size 60 z32.toList ∧ Below w.heap.size w wr) (fun i _ => n - (intOf i).toNat)
  case atStart => exact ⟨0, Nat.zero_le _, rfl, hd5'.out, hH5.out, hB5.out⟩
  case round =>
    obtain ⟨k, hk, rfl, hd, hh5, hB⟩ := hrel
    by_cases hlt : k < n
    · obtain ⟨x, hx⟩ : ∃ x, xs[k]? = some x := ⟨_, List.getElem?_eq_getElem (by rw [hlen.out]; exact hlt)⟩
      have hx32 := hE'.out.all x (List.mem_of_getElem? hx)
      have hr := (hE'.out.below hB hg).range hx
      have hnx := hid (joinL_next (head := head.data.toList) hx)
      have htl : (joinL head.data.toList (xs.take k)).length ≤ 1000000 := by
        rw [joinL_length _ _ (fun y hy => hE'.out.all y (List.mem_of_mem_take hy)), List.length_take]
        omega
      have hkn : (k : Int) < (n : Int) := by omega
      have hsz := hv_size x hx32
      have hu := Tryz.underlying60
      have hi : (Tryz.prog.info? 60).map (·.size) = some (byteCells x).length := by rw [hsz, List.size_toArray]
      have h1c := all_oneCell_toArray (byteCells_one x)
      have hth := hv_there wr x hx32
      have htsz := txt_size x
      have hd' := hid hd
      have hh' := hid hh5
      have hB' := hid hB
      have htl' := hid htl
      clear hd hh5 hB htl hx
      go_wp2_with (first
        | ((with_reducible refine at_slot (some 20) ?_); refine wpList_load_mid rfl 60 (.tmp 19) rfl g (k * 32) rfl (byteCells x) _ (by exact hr) hu rfl (by exact hi) ?_)
        | ((with_reducible refine at_slot (some 7) ?_); refine wpList_run rfl (.pointer (some ⟨wr.heap.size, 0, none⟩)) (wr.alloc (.cells z32 60)) (by kernel_rfl) ?_)
        | ((with_reducible refine at_slot none ?_); refine wpList_store_mid rfl 60 (.tmp 7) (.tmp 20) rfl wr.heap.size 0 (byteCells x).toArray rfl rfl (by exact hth) (by exact hsz) (by exact h1c) ?_; generalize hW7 : World.setCells _ _ _ _ = W7; obtain ⟨hH7, hb7⟩ := hv_new x hx32 hW7; have hcv := hv_text x hx32 W7 _ hH7))
      have hd7 := hid (hd'.out.below hb7 hd'.out.lt)
      have hh7 := hid (hh'.out.below hb7 hh'.out.lt)
      have hB7 := hid (hB'.out.trans (hb7.mono hB'.out.size))
      refine (write_any a _ (txt x) _ hd7.out (by have := htl'.out; rw [htsz]; omega)).mono ?_
      rintro e W8 ⟨rfl, hd8, hg8⟩
      rw [txt_list, ← hnx.out] at hd8
      have hh8 := hid (hh7.out.grown hg8 (fun e => by have := Option.some.inj e; omega))
      have hB8 := hid (hB7.out.grown hg8 hB7.out.size (fun k e => by have := Option.some.inj e; omega))
      have hd8' := hid hd8
      clear hd8 hg8
      go_wp2_with fail
      go_roundw
      case rel => exact ⟨k + 1, by omega, by go_num, hd8'.out, hh8.out, hB8.out⟩
      case measure => simp [intOf]; omega
    · obtain rfl : k = n := by omega
      have e : xs.take k = xs := List.take_of_length_le (by rw [hlen.out]; exact Nat.le_refl _)
      rw [e] at hd
      have htl : (joinL head.data.toList xs).length < 1152921504606846976 := by rw [joinL_length _ _ hE'.out.all, hlen.out]; omega
      have hd' := hid hd
      have hh' := hid hh5
      have hB' := hid hB
      clear hd hh5 hB
      go_wp2_with fail
      refine (dsum_any a _ _ hd'.out htl).mono ?_
      rintro e W3 ⟨rfl, hb3⟩
      have hh3 := hh'.out.below hb3 hh'.out.lt
      obtain ⟨hth, hrs⟩ := hash_ret (joinL head.data.toList xs) hh3
      have hb4 := below_setCells (hB'.out.trans (hb3.mono hB'.out.size)) w.heap.size 0 (byteCells (Sha.sha (joinL head.data.toList xs))) (Nat.le_refl _)
      have h1c := all_oneCell_toArray (byteCells_one (Sha.sha (joinL head.data.toList xs)))
      have hrs' := hid hrs
      have hb4' := hid hb4
      clear hrs hb4 hh3
      rename_i hK1
      refine hK1 _ _ ?_
      refine wpList_store_mid rfl 60 (.tmp 4) (.tmp 27) rfl w.heap.size 0 (byteCells (Sha.sha (joinL head.data.toList xs))).toArray rfl rfl (by exact hth) (by exact hash_size _) (by exact h1c) ?_
      generalize hW4 : World.setCells _ _ _ _ = W4
      have e4 : W3.setCells w.heap.size 0 (byteCells (Sha.sha (joinL head.data.toList xs))) = W4 := hW4
      rw [e4] at hrs' hb4'
      clear hW4 e4 hth h1c
      go_wp2
      exact bodyPost_ret (results_cell_row rfl _ _ w.heap.size 60 _ (0, 0) _ rfl hrs'.out Tryz.underlying60 rfl (by exact hash_size _)) rfl ⟨rfl, hb4'.out⟩

end Go.Proofs.YtmfajekfipfjpaaGreat
