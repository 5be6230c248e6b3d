/- Layer 3's Reader: its walks. -/
import Derived.Test.YtapegklffglnoaaWireW2
import Derived.Test.YtapegklffglnoaaClone
import Derived.IntWalk
namespace Go.Proofs.Ytapegklffglnoaa
open Go.RowKit
open Go.Lib (strCells strCells_length strCells_oneCell)

/-- A Reader (block g) before whom s is left. -/
def Rd (w : World) (g : Nat) (s : ByteArray) : Prop := Holds w g 158 [.string s]

set_option maxRecDepth 100000 in
theorem wireOpen_any (s : ByteArray) (w : World) : Calls Try.prog 100 #[.string s] w fun e w' => e = .returned (.pointer (some ⟨w.heap.size, 0, none⟩)) ∧ w' = w.alloc (.cells #[.string s] 158) := by
  go_enter Try.func100, Try.ntmps100
  go_wp2
  go_ret
  exact ⟨rfl, rfl⟩

theorem Rd.fresh (w : World) (s : ByteArray) : Rd (w.alloc (.cells #[.string s] 158)) w.heap.size s := Holds.new w _ _

set_option maxRecDepth 100000 in
theorem RLeft_any (g : Nat) (s : ByteArray) (w : World) (h : Rd w g s) : Calls Try.prog 107 #[.pointer (some ⟨g, 0, none⟩)] w fun e w' => e = .returned (.int .i64 s.size) ∧ w = w' := by
  have hc := Holds.cell h 0
  simp at hc
  go_enter Try.func107, Try.ntmps107
  go_wp2
  go_ret
  exact ⟨rfl, rfl⟩

set_option maxRecDepth 100000 in
theorem take_any (g : Nat) (s : ByteArray) (n : Nat) (hn : n ≤ s.size) (w : World) (h : Rd w g s) :
    Calls Try.prog 122 #[.pointer (some ⟨g, 0, none⟩), .int .i64 n] w fun e w' => e = .returned (.string (s.extract 0 n)) ∧ w' = w.setCell ⟨g, 0, none⟩ (.string (s.extract n s.size)) := by
  have hc := Holds.cell h 0
  have hf := Holds.frozen h 0
  simp at hc
  go_enter Try.func122, Try.ntmps122
  go_wp2
  go_ret
  exact ⟨rfl, rfl⟩

/-- The number of the first k bytes. -/
def numTo (s : ByteArray) (k : Nat) : Int := (numL (s.data.toList.take k) : Nat)

theorem numTo_next (s : ByteArray) (k : Nat) (h : k < s.size) : numTo s (k + 1) = 256 * numTo s k + (s[k].toNat : Int) := by
  unfold numTo
  have hl : k < s.data.toList.length := by rw [data_length]; exact h
  rw [List.take_succ_eq_append_getElem hl, numL_snoc]
  have : s.data.toList[k] = s[k] := by rw [Array.getElem_toList]; rfl
  rw [this]
  simp

theorem numTo_all (s : ByteArray) : numTo s s.size = (num s : Int) := by
  unfold numTo num
  rw [List.take_of_length_le (by rw [data_length]; exact Nat.le_refl _)]

theorem numTo_lt (s : ByteArray) (k : Nat) (h : k ≤ 3) : 0 ≤ numTo s k ∧ numTo s k < 16777216 := by
  unfold numTo
  have h1 := numL_lt (s.data.toList.take k)
  have h2 : (s.data.toList.take k).length ≤ 3 := by
    rw [List.length_take]
    omega
  have h3 : 256 ^ (s.data.toList.take k).length ≤ 256 ^ 3 := Nat.pow_le_pow_right (by omega) h2
  have h4 : (256 : Nat) ^ 3 = 16777216 := by decide
  omega

theorem or_low (a : Int) (b : UInt8) (h0 : 0 ≤ a) (h1 : a < 16777216) : bits .or .i64 (a * 256) (b.toNat : Int) = 256 * a + (b.toNat : Int) := by
  obtain ⟨n, rfl⟩ : ∃ n : Nat, a = n := ⟨a.toNat, by omega⟩
  have hb := b.toNat_lt
  have e1 : ((n : Int) * 256) = ((n * 256 : Nat) : Int) := by simp
  show IntKind.i64.wrap ((BitVec.ofInt 64 ((n : Int) * 256) ||| BitVec.ofInt 64 (b.toNat : Int)).toNat : Int) = _
  rw [e1, BitVec.ofInt_natCast, BitVec.ofInt_natCast, BitVec.toNat_or, BitVec.toNat_ofNat, BitVec.toNat_ofNat, Nat.mod_eq_of_lt (by omega), Nat.mod_eq_of_lt (by omega)]
  have e2 : n * 256 ||| b.toNat = n * 256 + b.toNat := by
    have := Nat.two_pow_add_eq_or_of_lt (i := 8) (b := b.toNat) (by omega) n
    rw [Nat.mul_comm]
    simpa using this.symm
  rw [e2, IntWalk.i64_in _ (by omega)]
  omega

set_option maxRecDepth 100000 in
set_option maxHeartbeats 400000 in
theorem Of_any (s : ByteArray) (hs : s.size ≤ 4) (w : World) : Calls Try.prog 124 #[.string s] w fun e w' => e = .returned (.int .i64 (num s)) ∧ w = w' := by
  have hn := hid (numTo_next s)
  have hall := hid (numTo_all s)
  go_enter Try.func124, Try.ntmps124
  go_wp2
  go_loop [3, 7] (fun x i => ∃ k : Nat, k ≤ s.size ∧ i = .int .i64 k ∧ x = .int .i64 (numTo s k)) (fun _ i => s.size - (intOf i).toNat)
  case atStart => exact ⟨0, Nat.zero_le _, rfl, rfl⟩
  case round =>
    obtain ⟨k, hk, rfl, rfl⟩ := hrel
    by_cases hlt : k < s.size
    · have hb := numTo_lt s k (by omega)
      obtain ⟨hb0, hb1⟩ := hb
      have hor := or_low (numTo s k) s[k] hb0 hb1
      have hnx := hid (hn.out k hlt)
      have hb8 : (s[k].toNat : Int) < 256 := by have := s[k].toNat_lt; omega
      go_wp2
      go_round
      case rel => exact ⟨k + 1, by omega, by go_num, by rw [hnx.out]⟩
      case measure => simp [intOf]; omega
    · go_wp2
      go_ret
      have hk2 : k = s.size := by omega
      refine ⟨?_, rfl⟩
      rw [hk2, hall.out]
      rfl

set_option maxRecDepth 100000 in
set_option maxHeartbeats 400000 in
theorem RNum_any (g : Nat) (s : ByteArray) (size : Int) (w : World) (h : Rd w g s) (x k : Int) (l : ByteArray) (hk : readNum s size = (x, k, l)) :
    Calls Try.prog 106 #[.pointer (some ⟨g, 0, none⟩), .int .i64 size] w fun e w' => e = .returned (.tuple #[.int .i64 x, .int .i64 k]) ∧ Rd w' g l ∧ w.grownBy w' (some g) := by
  have c1 := hid (isSize_any size)
  have hc := Holds.cell h 0
  simp at hc
  cases hs : isSizeB size with
  | false =>
    rw [readNum_form hs] at hk
    obtain ⟨rfl, hk'⟩ := Prod.mk.inj hk
    obtain ⟨rfl, rfl⟩ := Prod.mk.inj hk'
    clear hk'
    rw [hs] at c1
    clear hs hk
    go_enter Try.func106, Try.ntmps106
    go_wp2_with fail
    refine (c1.out _).mono ?_
    rintro e w' ⟨rfl, rfl⟩
    go_wp2
    go_ret2
    exact ⟨rfl, h, World.grownBy.refl _ _⟩
  | true =>
    rw [hs] at c1
    by_cases hlt : (s.size : Int) < size
    · rw [readNum_cut hs hlt] at hk
      obtain ⟨rfl, hk'⟩ := Prod.mk.inj hk
      obtain ⟨rfl, rfl⟩ := Prod.mk.inj hk'
      clear hk'
      clear hs hk
      go_enter Try.func106, Try.ntmps106
      go_wp2_with fail
      refine (c1.out _).mono ?_
      rintro e w' ⟨rfl, rfl⟩
      go_wp2
      go_ret2
      exact ⟨rfl, h, World.grownBy.refl _ _⟩
    · rw [readNum_ok hs hlt] at hk
      obtain ⟨rfl, hk'⟩ := Prod.mk.inj hk
      obtain ⟨rfl, rfl⟩ := Prod.mk.inj hk'
      clear hk'
      have hz := size_lt hs
      obtain ⟨n, rfl⟩ : ∃ n : Nat, size = n := ⟨size.toNat, by omega⟩
      rw [Int.toNat_natCast]
      have c2 := hid (take_any g s n (by omega) w h)
      have hx : (s.extract 0 n).size ≤ 4 := by rw [extract_size]; omega
      have c3 := hid (Of_any (s.extract 0 n) hx)
      clear hs hk hz
      generalize s.extract 0 n = a at *
      generalize hl : s.extract n s.size = l at *
      clear hl
      go_enter Try.func106, Try.ntmps106
      go_wp2_with fail
      refine (c1.out _).mono ?_
      rintro e w' ⟨rfl, rfl⟩
      go_wp2_with fail
      refine c2.out.mono ?_
      rintro e w' ⟨rfl, rfl⟩
      go_wp2_with fail
      refine (c3.out _).mono ?_
      rintro e w' ⟨rfl, rfl⟩
      go_wp2
      go_ret2
      exact ⟨rfl, Holds.set h 0 _, only_setCell (World.grownBy.refl _ _) 0 _⟩

set_option maxRecDepth 100000 in
set_option maxHeartbeats 400000 in
theorem RText_any (g : Nat) (s : ByteArray) (hsz : s.size ≤ 140737488355328) (size : Int) (w : World) (h : Rd w g s) (x : ByteArray) (k : Int) (l : ByteArray) (hk : readText s size = (x, k, l)) :
    Calls Try.prog 103 #[.pointer (some ⟨g, 0, none⟩), .int .i64 size] w fun e w' => e = .returned (.tuple #[.string x, .int .i64 k]) ∧ Rd w' g l ∧ w.grownBy w' (some g) := by
  have hc := Holds.cell h 0
  simp at hc
  obtain ⟨n, k1, l1, hn⟩ : ∃ n k l, readNum s size = (n, k, l) := ⟨_, _, _, rfl⟩
  have c1 := hid (RNum_any g s size w h n k1 l1 hn)
  by_cases hk1 : k1 = 0
  · subst hk1
    have hl1 : l1.size ≤ s.size ∧ 0 ≤ n ∧ n < 4294967296 := by
      cases hs : isSizeB size with
      | false => rw [readNum_form hs] at hn; simp at hn
      | true =>
        by_cases hlt : (s.size : Int) < size
        · rw [readNum_cut hs hlt] at hn; simp at hn
        · rw [readNum_ok hs hlt] at hn
          have hb := num_cut_lt (s := s) hs
          obtain ⟨rfl, hn'⟩ := Prod.mk.inj hn
          obtain ⟨_, rfl⟩ := Prod.mk.inj hn'
          rw [extract_size]
          omega
    obtain ⟨hl1, hn0, hn1⟩ := hl1
    by_cases hlt : (l1.size : Int) < n
    · rw [readText_cut hn hlt] at hk
      obtain ⟨rfl, hk'⟩ := Prod.mk.inj hk
      obtain ⟨rfl, rfl⟩ := Prod.mk.inj hk'
      clear hk' hk hn
      go_enter Try.func103, Try.ntmps103
      go_wp2_with fail
      refine c1.out.mono ?_
      rintro e w1 ⟨rfl, h1, hg1⟩
      have hc1 := Holds.cell h1 0
      have hf1 := Holds.frozen h1 0
      simp at hc1
      go_wp2
      go_ret2
      exact ⟨rfl, Holds.set h1 0 _, only_setCell hg1 0 _⟩
    · rw [readText_ok hn hlt] at hk
      obtain ⟨hx, hk'⟩ := Prod.mk.inj hk
      obtain ⟨rfl, hl⟩ := Prod.mk.inj hk'
      clear hk' hk hn
      obtain ⟨m, rfl⟩ : ∃ m : Nat, n = m := ⟨n.toNat, by omega⟩
      rw [Int.toNat_natCast] at hx hl
      have hlt' : m ≤ l1.size := by omega
      clear hlt hn0 hn1
      have c2 := hid (fun w h => take_any g l1 m hlt' w h)
      have hxs : x.size ≤ 281474976710656 := by rw [← hx, extract_size]; omega
      rw [hx, hl] at c2
      clear hx hl
      have c3 := hid (fun w => stringsClone_any x w hxs)
      go_enter Try.func103, Try.ntmps103
      go_wp2_with fail
      refine c1.out.mono ?_
      rintro e w1 ⟨rfl, h1, hg1⟩
      have hc1 := Holds.cell h1 0
      simp at hc1
      go_wp2_with fail
      refine (c2.out _ h1).mono ?_
      rintro e w' ⟨rfl, rfl⟩
      have h2 : Rd (w1.setCell ⟨g, 0, none⟩ (.string l)) g l := Holds.set h1 0 _
      have hg2 := only_setCell hg1 0 (.string l)
      generalize w1.setCell ⟨g, 0, none⟩ (.string l) = w2 at h2 hg2 ⊢
      go_wp2_with fail
      refine (c3.out _).mono ?_
      rintro e w3 ⟨rfl, hb3⟩
      go_wp2
      go_ret2
      exact ⟨rfl, Holds.below h2 hb3 (Holds.lt h2), only_below hg2 (hb3.mono hg2.size)⟩
  · rw [readText_err hn hk1] at hk
    obtain ⟨rfl, hk'⟩ := Prod.mk.inj hk
    obtain ⟨rfl, rfl⟩ := Prod.mk.inj hk'
    have hl : l1 = s := by
      cases hs : isSizeB size with
      | false => rw [readNum_form hs] at hn; exact ((Prod.mk.inj (Prod.mk.inj hn).2).2).symm
      | true =>
        by_cases hlt : (s.size : Int) < size
        · rw [readNum_cut hs hlt] at hn; exact ((Prod.mk.inj (Prod.mk.inj hn).2).2).symm
        · rw [readNum_ok hs hlt] at hn
          exact absurd (Prod.mk.inj (Prod.mk.inj hn).2).1.symm hk1
    subst hl
    have hne : (k1 == 0) = false := by simpa using hk1
    have hne' : (k1 != 0) = true := by simpa using hk1
    clear hk' hk hn hk1
    go_enter Try.func103, Try.ntmps103
    go_wp2_with fail
    refine c1.out.mono ?_
    rintro e w1 ⟨rfl, h1, hg1⟩
    go_wp2
    go_ret2
    exact ⟨rfl, h1, hg1⟩

end Go.Proofs.Ytapegklffglnoaa
