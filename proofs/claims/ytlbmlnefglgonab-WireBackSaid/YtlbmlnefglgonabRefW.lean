/- The document's own answers: its Writer of layer 3. -/
import Derived.Test.YtlbmlnefglgonabRefBe
import Derived.Test.YtlbmlnefglgonabWireH
namespace Go.Proofs.Ytlbmlnefglgonab
open Go.RowKit
open Go.Lib (strCells strCells_length strCells_oneCell)

theorem sized_any (x size : Int) (w : World) : Calls Try.prog 54 #[.int .i64 x, .int .i64 size] w fun e w' => e = .returned (.bool (fitsB x size)) ∧ w = w' := by
  cases hs : isSizeB size with
  | false =>
    have hf : fitsB x size = false := by simp [fitsB, hs]
    have hf' := hid hf
    obtain ⟨h1, h2, h4⟩ := isSizeB_no hs
    have g1 : (size == 1) = false := by simpa using h1
    have g2 : (size == 2) = false := by simpa using h2
    have g4 : (size == 4) = false := by simpa using h4
    clear hs hf h1 h2 h4
    go_enter Try.func54, Try.ntmps54
    go_wp2
    go_ret
    exact ⟨rbool hf'.out.symm, rfl⟩
  | true =>
    rcases isSizeB_cases hs with rfl | rfl | rfl
    all_goals
      clear hs
      by_cases h0 : 0 ≤ x
      · have q0 : decide (0 ≤ x) = true := by simpa using h0
        have h0' := hid h0
        clear h0
        go_enter Try.func54, Try.ntmps54
        go_wp2
        go_ret
        refine ⟨rbool ?_, rfl⟩
        have := h0'.out
        simp [fitsB, isSizeB, this]
      · have q0 : decide (0 ≤ x) = false := by simpa using h0
        have h0' := hid h0
        clear h0
        go_enter Try.func54, Try.ntmps54
        go_wp2
        go_ret
        refine ⟨rbool ?_, rfl⟩
        have := h0'.out
        simp [fitsB, isSizeB]
        omega

set_option maxRecDepth 100000 in
set_option maxHeartbeats 400000 in
theorem raw_any (p : ByteArray) (hp : p.size ≤ 4294967304) (g : Nat) (s : ByteArray) (r : Option Nat) (w : World) (hw : Wr w 28 5 g s r) (hsz : s.size ≤ 65536) (s' : ByteArray) (k : Int) (hk : addPiece s (some p) = (s', k)) :
    Calls Try.prog 55 #[.pointer (some ⟨g, 0, none⟩), .string p] w fun e w' =>
      ∃ r', e = .returned (.int .i64 k) ∧ Wr w' 28 5 g s' r' ∧ Fresh w r r' ∧ Turns w w' g r := by
  obtain ⟨i0, hi, hz0, hz1, hz2⟩ := info_parts Try.infoU8
  have hw' := hid hw
  obtain ⟨A, c, hH, hR, rfl, hrg⟩ := hw
  have hcell := hH.cell 0
  have hfr := hH.frozen 0
  simp at hcell
  by_cases hfit : s.size + p.size ≤ 65536
  · rw [addPiece_fits hfit] at hk
    obtain ⟨hs', rfl⟩ := Prod.mk.inj hk
    have hsp := hid hs'
    clear hk hs'
    go_enter Try.func55, Try.ntmps55
    go_wp2_with (at_builtin; (refine wpList_append_row rfl (.tmp 18) (.tmp 19) 26 9 rfl 5 i0 Try.underlying26 Try.underlying9 hi hz0 hz1 hz2 s p A c rfl rfl hR (by omega) s' hsp.out ?_); intro A2 c2 w2 hR2 hg2 hf2; have hH2 := hH.grown hg2 hrg.symm; have hcell2 := hH2.cell 0; have hfr2 := hH2.frozen 0; simp at hcell2)
    go_ret
    obtain ⟨a1, a2, a3⟩ := Wr.push (Below.refl _ _) hH hH.lt hrg hR2 hg2 hf2
    exact ⟨_, rfl, a1, a2, a3⟩
  · rw [addPiece_long hfit] at hk
    obtain ⟨rfl, rfl⟩ := Prod.mk.inj hk
    have hl : (65536 : Int) - s.size < p.size := by omega
    clear hk hfit
    go_enter Try.func55, Try.ntmps55
    go_wp2
    go_ret
    exact ⟨_, rfl, hw'.out, .inl rfl, Turns.refl _ _ _⟩

set_option maxRecDepth 100000 in
theorem refNum_any (x size : Int) (g : Nat) (s : ByteArray) (r : Option Nat) (w : World) (hw : Wr w 28 5 g s r) (hsz : s.size ≤ 65536) (s' : ByteArray) (k : Int) (hk : addPiece s (numPiece x size) = (s', k)) :
    Calls Try.prog 16 #[.pointer (some ⟨g, 0, none⟩), .int .i64 x, .int .i64 size] w fun e w' =>
      ∃ r', e = .returned (.int .i64 k) ∧ Wr w' 28 5 g s' r' ∧ Fresh w r r' ∧ Turns w w' g r := by
  have c1 := hid (sized_any x size)
  cases hf : fitsB x size with
  | false =>
    have e : numPiece x size = none := by simp [numPiece, hf]
    rw [e, addPiece_none] at hk
    obtain ⟨rfl, rfl⟩ := Prod.mk.inj hk
    rw [hf] at c1
    clear hk hf e
    go_enter Try.func16, Try.ntmps16
    go_wp2_with fail
    refine (c1.out _).mono ?_
    rintro e w' ⟨rfl, rfl⟩
    go_wp2
    go_ret
    exact ⟨_, rfl, hw, .inl rfl, Turns.refl _ _ _⟩
  | true =>
    obtain ⟨hs, h0, h1⟩ := fitsB_yes hf
    have h4 := size_lt hs
    have e : numPiece x size = some (be size.toNat x.toNat) := by simp [numPiece, hf]
    rw [e] at hk
    rw [hf] at c1
    have h2 : x < 4294967296 := Int.lt_of_lt_of_le h1 h4.2.2
    have c2 := hid (Be_any x size size.toNat (by omega) (by omega) x.toNat (by omega) (by omega))
    have hz : (be size.toNat x.toNat).size ≤ 4294967304 := by rw [be_size]; omega
    clear hf e h1 hs h0 h2 h4
    generalize be size.toNat x.toNat = p at *
    have c3 := hid (fun W r' hW => raw_any p hz g s r' W hW hsz s' k hk)
    clear hk hz
    go_enter Try.func16, Try.ntmps16
    go_wp2_with fail
    refine (c1.out _).mono ?_
    rintro e w' ⟨rfl, rfl⟩
    go_wp2_with fail
    refine (c2.out _).mono ?_
    rintro e w1 ⟨rfl, hb1⟩
    go_wp2_with fail
    refine (c3.out _ _ (hw.keep hb1)).mono ?_
    rintro e w' ⟨r', rfl, h1, h2, h3⟩
    go_wp2
    go_ret
    exact ⟨_, rfl, h1, h2.back hb1.size, (Turns.of_below hb1 g r).trans (.inl rfl) h3⟩

set_option maxRecDepth 100000 in
theorem refText_any (x : ByteArray) (hx : x.size ≤ 9223372036854775807) (size : Int) (g : Nat) (s : ByteArray) (r : Option Nat) (w : World) (hw : Wr w 28 5 g s r) (hsz : s.size ≤ 65536) (s' : ByteArray) (k : Int) (hk : addPiece s (textPiece x size) = (s', k)) :
    Calls Try.prog 18 #[.pointer (some ⟨g, 0, none⟩), .string x, .int .i64 size] w fun e w' =>
      ∃ r', e = .returned (.int .i64 k) ∧ Wr w' 28 5 g s' r' ∧ Fresh w r r' ∧ Turns w w' g r := by
  have c1 := hid (sized_any x.size size)
  cases hf : fitsB x.size size with
  | false =>
    have e : textPiece x size = none := by simp [textPiece, hf]
    rw [e, addPiece_none] at hk
    obtain ⟨rfl, rfl⟩ := Prod.mk.inj hk
    rw [hf] at c1
    clear hk hf e
    go_enter Try.func18, Try.ntmps18
    go_wp2_with fail
    refine (c1.out _).mono ?_
    rintro e w' ⟨rfl, rfl⟩
    go_wp2
    go_ret
    exact ⟨_, rfl, hw, .inl rfl, Turns.refl _ _ _⟩
  | true =>
    obtain ⟨hs, h0, h1⟩ := fitsB_yes hf
    have h4 := size_lt hs
    have e : textPiece x size = some (be size.toNat x.size ++ x) := by simp [textPiece, hf]
    rw [e] at hk
    rw [hf] at c1
    have h2 : (x.size : Int) < 4294967296 := Int.lt_of_lt_of_le h1 h4.2.2
    by_cases hlong : 65536 < x.size
    · rw [addPiece_long (by rw [size_append]; omega)] at hk
      obtain ⟨rfl, rfl⟩ := Prod.mk.inj hk
      clear hk hf e h1 h4 h2 hs h0
      have q1 : decide ((65536 : Int) < (x.size : Int)) = true := by simp; omega
      clear hlong
      go_enter Try.func18, Try.ntmps18
      go_wp2_with fail
      refine (c1.out _).mono ?_
      rintro e w' ⟨rfl, rfl⟩
      go_wp2
      go_ret
      exact ⟨_, rfl, hw, .inl rfl, Turns.refl _ _ _⟩
    · have c2 := hid (Be_any x.size size size.toNat (by omega) (by omega) x.size rfl (by omega))
      have hz : (be size.toNat x.size ++ x).size ≤ 4294967304 := by rw [size_append, be_size]; omega
      have hz2 : (be size.toNat x.size).size + x.size ≤ 9223372036854775807 := by rw [be_size]; omega
      have q1 : decide ((65536 : Int) < (x.size : Int)) = false := by simp; omega
      have hadd := fun w => run_string_add_sum (P := Try.prog) w (be size.toNat x.size) x hz2
      clear hf e h1 hs h0 h2 h4 hz2 hlong hx
      have c3 := hid (fun W r' hW => raw_any (be size.toNat x.size ++ x) hz g s r' W hW hsz s' k hk)
      clear hk hz
      generalize hbx : be size.toNat x.size ++ x = bx at *
      generalize be size.toNat x.size = b at *
      clear hbx
      go_enter Try.func18, Try.ntmps18
      go_wp2_with fail
      refine (c1.out _).mono ?_
      rintro e w' ⟨rfl, rfl⟩
      go_wp2_with fail
      refine (c2.out _).mono ?_
      rintro e w1 ⟨rfl, hb1⟩
      go_wp2_with fail
      refine (c3.out _ _ (hw.keep hb1)).mono ?_
      rintro e w' ⟨r', rfl, h1, h2, h3⟩
      go_wp2
      go_ret
      exact ⟨_, rfl, h1, h2.back hb1.size, (Turns.of_below hb1 g r).trans (.inl rfl) h3⟩

set_option maxRecDepth 100000 in
theorem T_any (H : Array Value) (h : ByteArray) (x : HashOf H h) (w : World) :
    Calls Try.prog 60 #[.agg H] w fun e w' => e = .returned (.string h) ∧ Below w.heap.size w w' := by
  have hc := run_convert_block (P := Try.prog) (w := w.alloc (.cells H 30)) (e := 5) (s := h) (n := 32) (c := 32) 26 9 Try.underlying26 Try.underlying5 Try.underlying9 x.size.symm (heap_alloc_new w _) x.cells
  go_enter Try.func60, Try.ntmps60
  go_wp2
  go_ret
  exact ⟨rfl, (Below.refl _ _).alloc (Nat.le_refl _) _⟩

set_option maxRecDepth 100000 in
theorem refHash_any (H : Array Value) (h : ByteArray) (hh : HashOf H h) (g : Nat) (s : ByteArray) (r : Option Nat) (w : World) (hw : Wr w 28 5 g s r) (hsz : s.size ≤ 65536) (s' : ByteArray) (k : Int) (hk : addPiece s (some h) = (s', k)) :
    Calls Try.prog 20 #[.pointer (some ⟨g, 0, none⟩), .agg H] w fun e w' =>
      ∃ r', e = .returned (.int .i64 k) ∧ Wr w' 28 5 g s' r' ∧ Fresh w r r' ∧ Turns w w' g r := by
  have c1 := hid (T_any H h hh)
  have hl := hid hh.len
  have hz : h.size ≤ 4294967304 := by have := hh.size; omega
  have c3 := hid (fun W r' hW => raw_any h hz g s r' W hW hsz s' k hk)
  clear hk hh hz
  go_enter Try.func20, Try.ntmps20
  go_wp2_with ((with_reducible refine at_slot (some 6) ?_); refine wpList_load_row rfl 30 (.tmp 3) rfl w.heap.size rfl 30 H (0, 0) _ (heap_alloc_new _ _) Try.underlying30 rfl (by rw [Try.infoHash, hl.out]) ?_)
  refine (c1.out _).mono ?_
  rintro e w1 ⟨rfl, hb1'⟩
  have hb1 : Below w.heap.size w w1 := ((Below.refl _ _).alloc (Nat.le_refl _) _).trans (hb1'.mono (by simp))
  clear hb1'
  go_wp2_with fail
  refine (c3.out _ _ (hw.keep hb1)).mono ?_
  rintro e w' ⟨r', rfl, h1, h2, h3⟩
  go_wp2
  go_ret
  exact ⟨_, rfl, h1, h2.back hb1.size, (Turns.of_below hb1 g r).trans (.inl rfl) h3⟩

set_option maxRecDepth 100000 in
theorem refAll_any (g : Nat) (s : ByteArray) (r : Option Nat) (w : World) (hw : Wr w 28 5 g s r) :
    Calls Try.prog 22 #[.pointer (some ⟨g, 0, none⟩)] w fun e w' => e = .returned (.string s) ∧ w = w' := by
  obtain ⟨A, c, hH, hR, _, _⟩ := hw
  have hcell := hH.cell 0
  simp at hcell
  have hc := run_convert_row (P := Try.prog) (w := w) (e := 5) 26 9 Try.underlying26 Try.underlying5 Try.underlying9 rfl hR
  go_enter Try.func22, Try.ntmps22
  go_wp2
  go_ret
  exact ⟨rfl, rfl⟩

end Go.Proofs.Ytlbmlnefglgonab
