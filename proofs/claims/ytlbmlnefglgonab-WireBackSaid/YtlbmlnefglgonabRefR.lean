/- The document's own answers: its Reader of layer 3. -/
import Derived.Test.YtlbmlnefglgonabRefW
import Derived.Test.YtlbmlnefglgonabWireH2
import Derived.Stop.BytesEq
namespace Go.Proofs.Ytlbmlnefglgonab
open Go.RowKit
open Go.Lib (strCells strCells_length strCells_oneCell)

theorem extract_twice (S : ByteArray) (p n : Nat) (h : p + n ≤ S.size) : (S.extract p S.size).extract 0 n = S.extract p (p + n) := by
  apply bytes_ext
  simp only [ByteArray.data_extract, Array.toList_extract, List.extract, List.drop_zero, Nat.sub_zero]
  rw [List.take_take]
  congr 1
  omega

theorem extract_after (S : ByteArray) (p n : Nat) (h : p + n ≤ S.size) : (S.extract p S.size).extract n (S.extract p S.size).size = S.extract (p + n) S.size := by
  apply bytes_ext
  rw [extract_size]
  simp only [ByteArray.data_extract, Array.toList_extract, List.extract]
  rw [List.drop_take, List.drop_drop, List.take_take]
  congr 1
  omega

theorem extract_get (S l : ByteArray) (p : Nat) (hl : S.extract p S.size = l) (j : Nat) (h : j < l.size) (h' : p + j < S.size) : l[j]'h = S[p + j]'h' := by
  subst hl
  show (S.extract p S.size).data[j]'h = S.data[p + j]'h'
  simp [ByteArray.data_extract]

/-- The reference's Reader (block g): its text, and where it stands. -/
def RR (w : World) (g : Nat) (S : ByteArray) (p : Nat) : Prop := Holds w g 48 [.string S, .int .i64 (p : Int)]

theorem fits_zero (size : Int) : fitsB 0 size = isSizeB size := by
  cases h : isSizeB size with
  | false => simp [fitsB, h]
  | true =>
    rcases isSizeB_cases h with rfl | rfl | rfl <;> rfl

set_option maxRecDepth 100000 in
theorem refLeft_any (g : Nat) (S : ByteArray) (p : Nat) (hp : p ≤ S.size) (hS : S.size ≤ 140737488351232) (w : World) (h : RR w g S p) (z : Int) (hz : z = (S.size : Int) - p) :
    Calls Try.prog 32 #[.pointer (some ⟨g, 0, none⟩)] w fun e w' => e = .returned (.int .i64 z) ∧ ∃ m, w' = w.drewN m := by
  have c0 : w.cell? ⟨g, 0, none⟩ = some (.string S) := Holds.cell h 0
  have c1 : w.cell? ⟨g, 1, none⟩ = some (.int .i64 (p : Int)) := Holds.cell h 1
  have hw : IntKind.i64.wrap ((S.size : Int) - p) = (S.size : Int) - p := IntWalk.i64_in _ (by omega)
  have hz' := hid hz
  clear hz
  go_enter Try.func32, Try.ntmps32
  go_wp2
  go_quiet (fail)
  go_wp2
  go_ret
  exact ⟨by rw [hz'.out]; rfl, _, rfl⟩

set_option maxRecDepth 100000 in
set_option maxHeartbeats 1000000 in
theorem refRNum_any (g : Nat) (S : ByteArray) (p : Nat) (hp : p ≤ S.size) (hS : S.size ≤ 140737488351232) (size : Int) (w : World) (h : RR w g S p) (l : ByteArray) (hl : S.extract p S.size = l) (x k : Int) (l' : ByteArray) (hk : readNum l size = (x, k, l')) :
    Calls Try.prog 26 #[.pointer (some ⟨g, 0, none⟩), .int .i64 size] w fun e w' =>
      e = .returned (.tuple #[.int .i64 x, .int .i64 k]) ∧ ∃ p', RR w' g S p' ∧ p' ≤ S.size ∧ S.extract p' S.size = l' ∧ w.grownBy w' (some g) := by
  have c1 := hid (sized_any 0 size)
  rw [fits_zero] at c1
  have hls : l.size = S.size - p := by rw [← hl, extract_size]; omega
  cases hs : isSizeB size with
  | false =>
    rw [readNum_form hs] at hk
    obtain ⟨rfl, hk'⟩ := Prod.mk.inj hk
    obtain ⟨rfl, rfl⟩ := Prod.mk.inj hk'
    rw [hs] at c1
    have hl' := hid hl
    clear hk' hk hs hls hl
    go_enter Try.func26, Try.ntmps26
    go_wp2_with fail
    refine (c1.out _).mono ?_
    rintro e w' ⟨rfl, rfl⟩
    go_wp2
    go_ret2
    exact ⟨rfl, p, h, hp, hl'.out, World.grownBy.refl _ _⟩
  | true =>
    rw [hs] at c1
    have c2 := hid (refLeft_any g S p hp hS w h (l.size : Int) (by omega))
    by_cases hlt : (l.size : Int) < size
    · rw [readNum_cut hs hlt] at hk
      obtain ⟨rfl, hk'⟩ := Prod.mk.inj hk
      obtain ⟨rfl, rfl⟩ := Prod.mk.inj hk'
      have hl' := hid hl
      have q1 : decide ((l.size : Int) < size) = true := by simpa using hlt
      clear hk' hk hs hls hl hlt
      go_enter Try.func26, Try.ntmps26
      go_wp2_with fail
      refine (c1.out _).mono ?_
      rintro e w' ⟨rfl, rfl⟩
      go_wp2_with fail
      refine c2.out.mono ?_
      rintro e w' ⟨rfl, m, rfl⟩
      go_wp2
      go_ret2
      exact ⟨rfl, p, Holds.drewN h _, hp, hl'.out, only_drewN (World.grownBy.refl _ _) _⟩
    · rw [readNum_ok hs hlt] at hk
      obtain ⟨hx, hk'⟩ := Prod.mk.inj hk
      obtain ⟨rfl, hl2⟩ := Prod.mk.inj hk'
      have hz := size_lt hs
      obtain ⟨n, rfl⟩ : ∃ n : Nat, size = n := ⟨size.toNat, by omega⟩
      rw [Int.toNat_natCast] at hx hl2
      have hnl : n ≤ l.size := by omega
      have hx2 : numTo l n = x := by
        rw [← hx]
        unfold numTo num
        rw [ByteArray.data_extract, Array.toList_extract]
        simp [List.extract]
      have hx2' := hid hx2
      have hpn : p + n ≤ S.size := by omega
      have hafter : S.extract (p + n) S.size = l' := by rw [← hl2, ← hl, extract_after S p n hpn]
      have hafter' := hid hafter
      have hget := hid (extract_get S l p hl)
      have q1 : decide ((l.size : Int) < (n : Int)) = false := by simp; omega
      have hn4 : n ≤ 4 := by omega
      have hls' := hid hls
      have a0 : w.cell? ⟨g, 0, none⟩ = some (.string S) := Holds.cell h 0
      have a1 : w.cell? ⟨g, 1, none⟩ = some (.int .i64 (p : Int)) := Holds.cell h 1
      have af := Holds.frozen h 1
      have hnext := hid (numTo_next l)
      have hpn' := hid hpn
      clear hk' hk hs hlt hx hl hl2 hx2 hafter hls hz hpn
      go_enter Try.func26, Try.ntmps26
      go_wp2_with fail
      refine (c1.out _).mono ?_
      rintro e w' ⟨rfl, rfl⟩
      go_wp2_with fail
      refine c2.out.mono ?_
      rintro e w' ⟨rfl, m, rfl⟩
      go_wp2
      go_loopw [6, 7] (fun x i wr => ∃ j m : Nat, j ≤ n ∧ i = .int .i64 j ∧ x = .int .i64 (numTo l j) ∧ wr = w.drewN m) (fun _ i _ => n - (intOf i).toNat)
      case atStart => exact ⟨0, _, Nat.zero_le _, rfl, rfl, rfl⟩
      case round =>
        obtain ⟨j, m, hj, rfl, rfl, rfl⟩ := hrel
        by_cases hjn : j < n
        · have hb := numTo_lt l j (by omega)
          obtain ⟨hb0, hb1⟩ := hb
          have hpj : p + j < S.size := by have := hpn'.out; omega
          have hor := or_low (numTo l j) (S[p + j]'hpj) hb0 hb1
          have hb8 : ((S[p + j]'hpj).toNat : Int) < 256 := by have := (S[p + j]'hpj).toNat_lt; omega
          have w1 : IntKind.i64.wrap ((p : Int) + j) = (p : Int) + j := IntWalk.i64_in _ (by omega)
          have w2 : 0 ≤ (p : Int) + j := by omega
          have w3 : (p : Int) + j < S.size := by omega
          have w4 : ((p : Int) + j).toNat = p + j := by omega
          have w5 : IntKind.i64.wrap (numTo l j * 256) = numTo l j * 256 := IntWalk.i64_in _ (by omega)
          have hnx := hid (by rw [hnext.out j (by omega), hget.out j (by omega) hpj] : numTo l (j + 1) = 256 * numTo l j + ((S[p + j]'hpj).toNat : Int))
          go_wp2
          go_quiet (fail)
          go_wp2
          go_roundw
          case rel => exact ⟨j + 1, _, by omega, by go_num, by rw [hnx.out], rfl⟩
          case measure => simp [intOf]; omega
        · obtain rfl : j = n := by omega
          go_wp2
          go_ret2
          refine ⟨by rw [← hx2'.out]; rfl, p + j, ?_, hpn'.out, hafter'.out, only_setCell (only_drewN (World.grownBy.refl _ _) m) 1 _⟩
          show Holds _ g _ [.string S, .int .i64 ((p + j : Nat) : Int)]
          rw [Int.natCast_add]
          exact Holds.set (Holds.drewN h m) 1 _

end Go.Proofs.Ytlbmlnefglgonab
