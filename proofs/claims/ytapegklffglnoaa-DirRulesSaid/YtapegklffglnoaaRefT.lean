/- The document's own answers: its Reader's Num and Text, for seats that lack its Writer (never together with RefW, RefR, RefR2). -/
import Derived.Test.YtapegklffglnoaaRefH
import Derived.Test.YtapegklffglnoaaWireR
import Derived.StillTailTactics
namespace Go.Proofs.Ytapegklffglnoaa
open Go.RowKit
open Go.Lib (strCells strCells_length strCells_oneCell)

theorem sized_any (x size : Int) (w : World) : Calls Try.prog 108 #[.int .i64 x, .int .i64 size] w fun e w' => e = .returned (.bool (fitsB x size)) ∧ w = w' := by
  cases hs : isSizeB size with
  | false =>
    have hf : fitsB x size = false := by simp [fitsB, hs]
    have hf' := hid hf
    obtain ⟨h1, h2, h4⟩ := isSizeB_no hs
    have g1 : (size == 1) = false := by simpa using h1
    have g2 : (size == 2) = false := by simpa using h2
    have g4 : (size == 4) = false := by simpa using h4
    clear hs hf h1 h2 h4
    go_enter Try.func108, Try.ntmps108
    go_wp2
    go_ret
    exact ⟨rbool hf'.out.symm, rfl⟩
  | true =>
    rcases isSizeB_cases hs with rfl | rfl | rfl
    all_goals
      clear hs
      by_cases h0 : 0 ≤ x
      · have q0 : decide (0 ≤ x) = true := by simpa using h0
        have h0' := hid h0
        clear h0
        go_enter Try.func108, Try.ntmps108
        go_wp2
        go_ret
        refine ⟨rbool ?_, rfl⟩
        have := h0'.out
        simp [fitsB, isSizeB, this]
      · have q0 : decide (0 ≤ x) = false := by simpa using h0
        have h0' := hid h0
        clear h0
        go_enter Try.func108, Try.ntmps108
        go_wp2
        go_ret
        refine ⟨rbool ?_, rfl⟩
        have := h0'.out
        simp [fitsB, isSizeB]
        omega

set_option maxRecDepth 100000 in
set_option maxHeartbeats 1000000 in
theorem refRNum_any (g : Nat) (S : ByteArray) (p : Nat) (hp : p ≤ S.size) (hS : S.size ≤ 140737488351232) (size : Int) (w : World) (h : RR w g S p) (l : ByteArray) (hl : S.extract p S.size = l) (x k : Int) (l' : ByteArray) (hk : readNum l size = (x, k, l')) :
    Calls Try.prog 68 #[.pointer (some ⟨g, 0, none⟩), .int .i64 size] w fun e w' =>
      e = .returned (.tuple #[.int .i64 x, .int .i64 k]) ∧ ∃ p', RR w' g S p' ∧ p' ≤ S.size ∧ S.extract p' S.size = l' ∧ w.grownBy w' (some g) := by
  have c1 := hid (sized_any 0 size)
  rw [fits_zero] at c1
  have hls : l.size = S.size - p := by rw [← hl, extract_size]; omega
  cases hs : isSizeB size with
  | false =>
    rw [readNum_form hs] at hk
    obtain ⟨rfl, hk'⟩ := Prod.mk.inj hk
    obtain ⟨rfl, rfl⟩ := Prod.mk.inj hk'
    rw [hs] at c1
    have hl' := hid hl
    clear hk' hk hs hls hl
    go_enter Try.func68, Try.ntmps68
    go_wp2_with fail
    refine (c1.out _).mono ?_
    rintro e w' ⟨rfl, rfl⟩
    go_wp2
    go_ret2
    exact ⟨rfl, p, h, hp, hl'.out, World.grownBy.refl _ _⟩
  | true =>
    rw [hs] at c1
    have c2 := hid (refLeft_any g S p hp hS w h (l.size : Int) (by omega))
    by_cases hlt : (l.size : Int) < size
    · rw [readNum_cut hs hlt] at hk
      obtain ⟨rfl, hk'⟩ := Prod.mk.inj hk
      obtain ⟨rfl, rfl⟩ := Prod.mk.inj hk'
      have hl' := hid hl
      have q1 : decide ((l.size : Int) < size) = true := by simpa using hlt
      clear hk' hk hs hls hl hlt
      go_enter Try.func68, Try.ntmps68
      go_wp2_with fail
      refine (c1.out _).mono ?_
      rintro e w' ⟨rfl, rfl⟩
      go_wp2_with fail
      refine c2.out.mono ?_
      rintro e w' ⟨rfl, m, rfl⟩
      go_wp2
      go_ret2
      exact ⟨rfl, p, Holds.drewN h _, hp, hl'.out, only_drewN (World.grownBy.refl _ _) _⟩
    · rw [readNum_ok hs hlt] at hk
      obtain ⟨hx, hk'⟩ := Prod.mk.inj hk
      obtain ⟨rfl, hl2⟩ := Prod.mk.inj hk'
      have hz := size_lt hs
      obtain ⟨n, rfl⟩ : ∃ n : Nat, size = n := ⟨size.toNat, by omega⟩
      rw [Int.toNat_natCast] at hx hl2
      have hnl : n ≤ l.size := by omega
      have hx2 : numTo l n = x := by
        rw [← hx]
        unfold numTo num
        rw [ByteArray.data_extract, Array.toList_extract]
        simp [List.extract]
      have hx2' := hid hx2
      have hpn : p + n ≤ S.size := by omega
      have hafter : S.extract (p + n) S.size = l' := by rw [← hl2, ← hl, extract_after S p n hpn]
      have hafter' := hid hafter
      have hget := hid (extract_get S l p hl)
      have q1 : decide ((l.size : Int) < (n : Int)) = false := by simp; omega
      have hn4 : n ≤ 4 := by omega
      have hls' := hid hls
      have a0 : w.cell? ⟨g, 0, none⟩ = some (.string S) := Holds.cell h 0
      have a1 : w.cell? ⟨g, 1, none⟩ = some (.int .i64 (p : Int)) := Holds.cell h 1
      have af := Holds.frozen h 1
      have hnext := hid (numTo_next l)
      have hpn' := hid hpn
      clear hk' hk hs hlt hx hl hl2 hx2 hafter hls hz hpn
      go_enter Try.func68, Try.ntmps68
      go_wp2_with fail
      refine (c1.out _).mono ?_
      rintro e w' ⟨rfl, rfl⟩
      go_wp2_with fail
      refine c2.out.mono ?_
      rintro e w' ⟨rfl, m, rfl⟩
      go_wp2
      go_loopw [6, 7] (fun x i wr => ∃ j m : Nat, j ≤ n ∧ i = .int .i64 j ∧ x = .int .i64 (numTo l j) ∧ wr = w.drewN m) (fun _ i _ => n - (intOf i).toNat)
      case atStart => exact ⟨0, _, Nat.zero_le _, rfl, rfl, rfl⟩
      case round =>
        obtain ⟨j, m, hj, rfl, rfl, rfl⟩ := hrel
        by_cases hjn : j < n
        · have hb := numTo_lt l j (by omega)
          obtain ⟨hb0, hb1⟩ := hb
          have hpj : p + j < S.size := by have := hpn'.out; omega
          have hor := or_low (numTo l j) (S[p + j]'hpj) hb0 hb1
          have hb8 : ((S[p + j]'hpj).toNat : Int) < 256 := by have := (S[p + j]'hpj).toNat_lt; omega
          have w1 : IntKind.i64.wrap ((p : Int) + j) = (p : Int) + j := IntWalk.i64_in _ (by omega)
          have w2 : 0 ≤ (p : Int) + j := by omega
          have w3 : (p : Int) + j < S.size := by omega
          have w4 : ((p : Int) + j).toNat = p + j := by omega
          have w5 : IntKind.i64.wrap (numTo l j * 256) = numTo l j * 256 := IntWalk.i64_in _ (by omega)
          have hnx := hid (by rw [hnext.out j (by omega), hget.out j (by omega) hpj] : numTo l (j + 1) = 256 * numTo l j + ((S[p + j]'hpj).toNat : Int))
          go_wp2
          go_quiet (fail)
          go_wp2
          go_roundw
          case rel => exact ⟨j + 1, _, by omega, by go_num, by rw [hnx.out], rfl⟩
          case measure => simp [intOf]; omega
        · obtain rfl : j = n := by omega
          go_wp2
          go_ret2
          refine ⟨by rw [← hx2'.out]; rfl, p + j, ?_, hpn'.out, hafter'.out, only_setCell (only_drewN (World.grownBy.refl _ _) m) 1 _⟩
          show Holds _ g _ [.string S, .int .i64 ((p + j : Nat) : Int)]
          rw [Int.natCast_add]
          exact Holds.set (Holds.drewN h m) 1 _

theorem readNum_range {s l : ByteArray} {size n : Int} (hn : readNum s size = (n, 0, l)) : l.size ≤ s.size ∧ 0 ≤ n ∧ n < 4294967296 := by
  cases hs : isSizeB size with
  | false => rw [readNum_form hs] at hn; simp at hn
  | true =>
    by_cases hlt : (s.size : Int) < size
    · rw [readNum_cut hs hlt] at hn; simp at hn
    · rw [readNum_ok hs hlt] at hn
      have hb := num_cut_lt (s := s) hs
      obtain ⟨rfl, hn'⟩ := Prod.mk.inj hn
      obtain ⟨_, rfl⟩ := Prod.mk.inj hn'
      rw [extract_size]
      omega

theorem readNum_stays {s l : ByteArray} {size n k : Int} (hn : readNum s size = (n, k, l)) (hk : k ≠ 0) : l = s := by
  cases hs : isSizeB size with
  | false => rw [readNum_form hs] at hn; exact ((Prod.mk.inj (Prod.mk.inj hn).2).2).symm
  | true =>
    by_cases hlt : (s.size : Int) < size
    · rw [readNum_cut hs hlt] at hn; exact ((Prod.mk.inj (Prod.mk.inj hn).2).2).symm
    · rw [readNum_ok hs hlt] at hn
      exact absurd (Prod.mk.inj (Prod.mk.inj hn).2).1.symm hk

set_option maxRecDepth 100000 in
set_option maxHeartbeats 1000000 in
theorem refRText_any (g : Nat) (S : ByteArray) (p : Nat) (hp : p ≤ S.size) (hS : S.size ≤ 140737488351232) (size : Int) (w : World) (h : RR w g S p) (l : ByteArray) (hl : S.extract p S.size = l) (x : ByteArray) (k : Int) (l' : ByteArray) (hk : readText l size = (x, k, l')) :
    Calls Try.prog 67 #[.pointer (some ⟨g, 0, none⟩), .int .i64 size] w fun e w' =>
      e = .returned (.tuple #[.string x, .int .i64 k]) ∧ ∃ p', RR w' g S p' ∧ p' ≤ S.size ∧ S.extract p' S.size = l' ∧ w.grownBy w' (some g) := by
  obtain ⟨n, k1, l1, hn⟩ : ∃ n k l1, readNum l size = (n, k, l1) := ⟨_, _, _, rfl⟩
  have c1 := hid (refRNum_any g S p hp hS size w h l hl n k1 l1 hn)
  have a1 : w.cell? ⟨g, 1, none⟩ = some (.int .i64 (p : Int)) := Holds.cell h 1
  by_cases hk1 : k1 = 0
  · subst hk1
    obtain ⟨hl1, hn0, hn1⟩ := readNum_range hn
    by_cases hlt : (l1.size : Int) < n
    · rw [readText_cut hn hlt] at hk
      obtain ⟨rfl, hk'⟩ := Prod.mk.inj hk
      obtain ⟨rfl, rfl⟩ := Prod.mk.inj hk'
      have hl' := hid hl
      have q1 : decide ((l1.size : Int) < n) = true := by simpa using hlt
      clear hk' hk hn hl hl1 hlt
      go_enter Try.func67, Try.ntmps67
      go_wp2_with fail
      refine c1.out.mono ?_
      rintro e w1 ⟨rfl, p1, h1, hp1, he1, hg1⟩
      have c2 := hid (refLeft_any g S p1 hp1 hS w1 h1 (l1.size : Int) (by rw [← he1, extract_size]; omega))
      have b1 : w1.cell? ⟨g, 1, none⟩ = some (.int .i64 (p1 : Int)) := Holds.cell h1 1
      have bf := Holds.frozen h1 1
      clear he1
      go_wp2_with fail
      refine c2.out.mono ?_
      rintro e w' ⟨rfl, m, rfl⟩
      go_wp2
      go_ret2
      exact ⟨rfl, p, Holds.set (Holds.drewN h1 m) 1 _, hp, hl'.out, only_setCell (only_drewN hg1 m) 1 _⟩
    · rw [readText_ok hn hlt] at hk
      obtain ⟨hx, hk'⟩ := Prod.mk.inj hk
      obtain ⟨rfl, hl2⟩ := Prod.mk.inj hk'
      obtain ⟨m0, rfl⟩ : ∃ m : Nat, n = m := ⟨n.toNat, by omega⟩
      rw [Int.toNat_natCast] at hx hl2
      have hm : m0 ≤ l1.size := by omega
      have hx' := hid hx
      have hl2' := hid hl2
      clear hk' hk hn hl hl1 hlt hx hl2 hn0 hn1
      go_enter Try.func67, Try.ntmps67
      go_wp2_with fail
      refine c1.out.mono ?_
      rintro e w1 ⟨rfl, p1, h1, hp1, he1, hg1⟩
      have hls : l1.size = S.size - p1 := by rw [← he1, extract_size]; omega
      have hpm : p1 + m0 ≤ S.size := by omega
      have c2 := hid (refLeft_any g S p1 hp1 hS w1 h1 (l1.size : Int) (by omega))
      have hcut : S.extract p1 (p1 + m0) = x := by rw [← hx'.out, ← he1, extract_twice S p1 m0 hpm]
      have haft : S.extract (p1 + m0) S.size = l' := by rw [← hl2'.out, ← he1, extract_after S p1 m0 hpm]
      have haft' := hid haft
      have b0 : w1.cell? ⟨g, 0, none⟩ = some (.string S) := Holds.cell h1 0
      have b1 : w1.cell? ⟨g, 1, none⟩ = some (.int .i64 (p1 : Int)) := Holds.cell h1 1
      have bf := Holds.frozen h1 1
      have hpm' := hid hpm
      clear he1 hls haft hpm
      go_wp2_with fail
      refine c2.out.mono ?_
      rintro e w' ⟨rfl, m, rfl⟩
      go_wp2
      have hpm := hpm'.out
      have v1 : IntKind.i64.wrap ((p1 : Int) + m0) = (p1 : Int) + m0 := IntWalk.i64_in _ (by omega)
      have v2 : 0 ≤ (p1 : Int) + m0 := by omega
      have v3 : (p1 : Int) + m0 ≤ S.size := by omega
      have v4 : ((p1 : Int) + m0).toNat = p1 + m0 := by omega
      have v5 : (p1 : Int) ≤ (p1 : Int) + m0 := by omega
      go_quiet (fail)
      go_wp2
      go_ret2
      refine ⟨rfl, p1 + m0, ?_, hpm, haft'.out, only_setCell (only_drewN hg1 _) 1 _⟩
      show Holds _ g _ [.string S, .int .i64 ((p1 + m0 : Nat) : Int)]
      rw [Int.natCast_add]
      exact Holds.set (Holds.drewN h1 _) 1 _
  · have hst := readNum_stays hn hk1
    subst hst
    rw [readText_err hn hk1] at hk
    obtain ⟨rfl, hk'⟩ := Prod.mk.inj hk
    obtain ⟨rfl, rfl⟩ := Prod.mk.inj hk'
    have hne : (k1 == 0) = false := by simpa using hk1
    have hne' : (k1 != 0) = true := by simpa using hk1
    clear hk' hk hn hk1 hl
    go_enter Try.func67, Try.ntmps67
    go_wp2_with fail
    refine c1.out.mono ?_
    rintro e w1 ⟨rfl, p1, h1, hp1, he1, hg1⟩
    have he1' := hid he1
    clear he1
    go_wp2
    go_ret2
    exact ⟨rfl, p1, h1, hp1, he1'.out, hg1⟩

end Go.Proofs.Ytapegklffglnoaa
