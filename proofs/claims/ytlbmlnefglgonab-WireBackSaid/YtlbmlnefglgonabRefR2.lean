/- The document's own answers: its Reader of layer 3, texts and hashes. -/
import Derived.Test.YtlbmlnefglgonabRefR
namespace Go.Proofs.Ytlbmlnefglgonab
open Go.RowKit
open Go.Lib (strCells strCells_length strCells_oneCell)

theorem readNum_range {s l : ByteArray} {size n : Int} (hn : readNum s size = (n, 0, l)) : l.size ≤ s.size ∧ 0 ≤ n ∧ n < 4294967296 := by
  cases hs : isSizeB size with
  | false => rw [readNum_form hs] at hn; simp at hn
  | true =>
    by_cases hlt : (s.size : Int) < size
    · rw [readNum_cut hs hlt] at hn; simp at hn
    · rw [readNum_ok hs hlt] at hn
      have hb := num_cut_lt (s := s) hs
      obtain ⟨rfl, hn'⟩ := Prod.mk.inj hn
      obtain ⟨_, rfl⟩ := Prod.mk.inj hn'
      rw [extract_size]
      omega

theorem readNum_stays {s l : ByteArray} {size n k : Int} (hn : readNum s size = (n, k, l)) (hk : k ≠ 0) : l = s := by
  cases hs : isSizeB size with
  | false => rw [readNum_form hs] at hn; exact ((Prod.mk.inj (Prod.mk.inj hn).2).2).symm
  | true =>
    by_cases hlt : (s.size : Int) < size
    · rw [readNum_cut hs hlt] at hn; exact ((Prod.mk.inj (Prod.mk.inj hn).2).2).symm
    · rw [readNum_ok hs hlt] at hn
      exact absurd (Prod.mk.inj (Prod.mk.inj hn).2).1.symm hk

set_option maxRecDepth 100000 in
set_option maxHeartbeats 1000000 in
theorem refRText_any (g : Nat) (S : ByteArray) (p : Nat) (hp : p ≤ S.size) (hS : S.size ≤ 140737488351232) (size : Int) (w : World) (h : RR w g S p) (l : ByteArray) (hl : S.extract p S.size = l) (x : ByteArray) (k : Int) (l' : ByteArray) (hk : readText l size = (x, k, l')) :
    Calls Try.prog 28 #[.pointer (some ⟨g, 0, none⟩), .int .i64 size] w fun e w' =>
      e = .returned (.tuple #[.string x, .int .i64 k]) ∧ ∃ p', RR w' g S p' ∧ p' ≤ S.size ∧ S.extract p' S.size = l' ∧ w.grownBy w' (some g) := by
  obtain ⟨n, k1, l1, hn⟩ : ∃ n k l1, readNum l size = (n, k, l1) := ⟨_, _, _, rfl⟩
  have c1 := hid (refRNum_any g S p hp hS size w h l hl n k1 l1 hn)
  have a1 : w.cell? ⟨g, 1, none⟩ = some (.int .i64 (p : Int)) := Holds.cell h 1
  by_cases hk1 : k1 = 0
  · subst hk1
    obtain ⟨hl1, hn0, hn1⟩ := readNum_range hn
    by_cases hlt : (l1.size : Int) < n
    · rw [readText_cut hn hlt] at hk
      obtain ⟨rfl, hk'⟩ := Prod.mk.inj hk
      obtain ⟨rfl, rfl⟩ := Prod.mk.inj hk'
      have hl' := hid hl
      have q1 : decide ((l1.size : Int) < n) = true := by simpa using hlt
      clear hk' hk hn hl hl1 hlt
      go_enter Try.func28, Try.ntmps28
      go_wp2_with fail
      refine c1.out.mono ?_
      rintro e w1 ⟨rfl, p1, h1, hp1, he1, hg1⟩
      have c2 := hid (refLeft_any g S p1 hp1 hS w1 h1 (l1.size : Int) (by rw [← he1, extract_size]; omega))
      have b1 : w1.cell? ⟨g, 1, none⟩ = some (.int .i64 (p1 : Int)) := Holds.cell h1 1
      have bf := Holds.frozen h1 1
      clear he1
      go_wp2_with fail
      refine c2.out.mono ?_
      rintro e w' ⟨rfl, m, rfl⟩
      go_wp2
      go_ret2
      exact ⟨rfl, p, Holds.set (Holds.drewN h1 m) 1 _, hp, hl'.out, only_setCell (only_drewN hg1 m) 1 _⟩
    · rw [readText_ok hn hlt] at hk
      obtain ⟨hx, hk'⟩ := Prod.mk.inj hk
      obtain ⟨rfl, hl2⟩ := Prod.mk.inj hk'
      obtain ⟨m0, rfl⟩ : ∃ m : Nat, n = m := ⟨n.toNat, by omega⟩
      rw [Int.toNat_natCast] at hx hl2
      have hm : m0 ≤ l1.size := by omega
      have hx' := hid hx
      have hl2' := hid hl2
      clear hk' hk hn hl hl1 hlt hx hl2 hn0 hn1
      go_enter Try.func28, Try.ntmps28
      go_wp2_with fail
      refine c1.out.mono ?_
      rintro e w1 ⟨rfl, p1, h1, hp1, he1, hg1⟩
      have hls : l1.size = S.size - p1 := by rw [← he1, extract_size]; omega
      have hpm : p1 + m0 ≤ S.size := by omega
      have c2 := hid (refLeft_any g S p1 hp1 hS w1 h1 (l1.size : Int) (by omega))
      have hcut : S.extract p1 (p1 + m0) = x := by rw [← hx'.out, ← he1, extract_twice S p1 m0 hpm]
      have haft : S.extract (p1 + m0) S.size = l' := by rw [← hl2'.out, ← he1, extract_after S p1 m0 hpm]
      have haft' := hid haft
      have b0 : w1.cell? ⟨g, 0, none⟩ = some (.string S) := Holds.cell h1 0
      have b1 : w1.cell? ⟨g, 1, none⟩ = some (.int .i64 (p1 : Int)) := Holds.cell h1 1
      have bf := Holds.frozen h1 1
      have hpm' := hid hpm
      clear he1 hls haft hpm
      go_wp2_with fail
      refine c2.out.mono ?_
      rintro e w' ⟨rfl, m, rfl⟩
      go_wp2
      have hpm := hpm'.out
      have v1 : IntKind.i64.wrap ((p1 : Int) + m0) = (p1 : Int) + m0 := IntWalk.i64_in _ (by omega)
      have v2 : 0 ≤ (p1 : Int) + m0 := by omega
      have v3 : (p1 : Int) + m0 ≤ S.size := by omega
      have v4 : ((p1 : Int) + m0).toNat = p1 + m0 := by omega
      have v5 : (p1 : Int) ≤ (p1 : Int) + m0 := by omega
      go_quiet (fail)
      go_wp2
      go_ret2
      refine ⟨rfl, p1 + m0, ?_, hpm, haft'.out, only_setCell (only_drewN hg1 _) 1 _⟩
      show Holds _ g _ [.string S, .int .i64 ((p1 + m0 : Nat) : Int)]
      rw [Int.natCast_add]
      exact Holds.set (Holds.drewN h1 _) 1 _
  · have hst := readNum_stays hn hk1
    subst hst
    rw [readText_err hn hk1] at hk
    obtain ⟨rfl, hk'⟩ := Prod.mk.inj hk
    obtain ⟨rfl, rfl⟩ := Prod.mk.inj hk'
    have hne : (k1 == 0) = false := by simpa using hk1
    have hne' : (k1 != 0) = true := by simpa using hk1
    clear hk' hk hn hk1 hl
    go_enter Try.func28, Try.ntmps28
    go_wp2_with fail
    refine c1.out.mono ?_
    rintro e w1 ⟨rfl, p1, h1, hp1, he1, hg1⟩
    have he1' := hid he1
    clear he1
    go_wp2
    go_ret2
    exact ⟨rfl, p1, h1, hp1, he1'.out, hg1⟩

end Go.Proofs.Ytlbmlnefglgonab
