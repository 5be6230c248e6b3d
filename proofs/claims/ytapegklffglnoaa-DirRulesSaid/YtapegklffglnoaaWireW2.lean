/- Layer 3's Writer: its walks, the second part. -/
import Derived.Test.YtapegklffglnoaaWireW
namespace Go.Proofs.Ytapegklffglnoaa
open Go.RowKit
open Go.Lib (strCells strCells_length strCells_oneCell)

set_option maxRecDepth 100000 in
theorem wireNew_any (w : World) : Calls Try.prog 95 #[] w fun e w' => e = .returned (.pointer (some ⟨w.heap.size, 0, none⟩)) ∧ w' = w.alloc (.cells #[.slice none 0 0] 154) := by
  go_enter Try.func95, Try.ntmps95
  go_wp2
  go_ret
  exact ⟨rfl, rfl⟩

theorem Wr.alloc {w : World} {t e : TypeId} {g : Nat} {s : ByteArray} {r : Option Nat} (h : Wr w t e g s r) (o : Obj) : Wr (w.alloc o) t e g s r := h.keep ((Below.refl _ _).alloc (Nat.le_refl _) _)

theorem Wr.fresh (w : World) : Wr (w.alloc (.cells #[.slice none 0 0] 154)) 154 5 w.heap.size ByteArray.empty none := by
  refine ⟨none, 0, Holds.new w _ _, ?_, rfl, fun h => by cases h⟩
  exact World.ownsRow_nil _ _ _ _

set_option maxRecDepth 100000 in
set_option maxHeartbeats 400000 in
theorem WNum_any (x size : Int) (g : Nat) (s : ByteArray) (r : Option Nat) (w : World) (hw : Wr w 154 5 g s r) (hsz : s.size ≤ 65536) (s' : ByteArray) (k : Int) (hk : addPiece s (numPiece x size) = (s', k)) :
    Calls Try.prog 98 #[.pointer (some ⟨g, 0, none⟩), .int .i64 x, .int .i64 size] w fun e w' =>
      ∃ r', e = .returned (.int .i64 k) ∧ Wr w' 154 5 g s' r' ∧ Fresh w r r' ∧ Turns w w' g r := by
  have c1 := hid (fits_any x size)
  cases hf : fitsB x size with
  | false =>
    have e : numPiece x size = none := by simp [numPiece, hf]
    rw [e, addPiece_none] at hk
    obtain ⟨rfl, rfl⟩ := Prod.mk.inj hk
    rw [hf] at c1
    clear hk hf e
    go_enter Try.func98, Try.ntmps98
    go_wp2_with fail
    refine (c1.out _).mono ?_
    rintro e w' ⟨rfl, rfl⟩
    go_wp2
    go_ret
    exact ⟨_, rfl, hw.keep ((Below.refl _ _).alloc (Nat.le_refl _) _), .inl rfl, (Turns.refl _ _ _).alloc _⟩
  | true =>
    obtain ⟨hs, h0, h1⟩ := fitsB_yes hf
    have e : numPiece x size = some (be size.toNat x.toNat) := by simp [numPiece, hf]
    rw [e] at hk
    rw [hf] at c1
    have h2 : x < 4294967296 := Int.lt_of_lt_of_le h1 (size_lt hs).2.2
    clear hf e h1
    have c2 := hid (fun b q W hW hb hq => listInt_one x size hs h0 h2 g b q s r W hW hsz hb hq s' k hk)
    clear hk hs h0 h2
    go_enter Try.func98, Try.ntmps98
    go_wp2_with fail
    refine (c1.out _).mono ?_
    rintro e w' ⟨rfl, rfl⟩
    go_wp2_with fail
    refine (c2.out w.heap.size (w.heap.size + 1) _ ?_ ?_ ?_).mono ?_
    · exact (hw.alloc _).alloc _
    · exact ((Holds.new w _ _).alloc _).cell 0
    · have := (Holds.new (w.alloc (.cells #[.int .i64 size] 3)) 3 #[.int .i64 x]).cell 0
      rwa [alloc_size] at this
    rintro e w' ⟨r', rfl, h1, h2, h3⟩
    go_wp2
    go_ret
    exact ⟨_, rfl, h1, h2.back (by simp; omega), ((Turns.refl _ _ _).alloc _).alloc _ |>.trans (.inl rfl) h3⟩

/-- The closure that tells a text as it is. -/
theorem textTell_any (s : ByteArray) (w : World) : Calls Try.prog 119 #[.string s] w fun e w' => e = .returned (.string s) ∧ w = w' := by
  go_enter Try.func119, Try.ntmps119
  go_wp2
  go_ret
  exact ⟨rfl, rfl⟩

theorem row_back {w : World} {e : TypeId} {s p : ByteArray} {A : Option Addr} {c : Nat} (h : Row w e (s ++ p) A c) (hp : 0 < p.size) : Row w e s A c := by
  have hl : (strCells s).length = s.size := strCells_length s
  refine ⟨by omega, ?_⟩
  rcases h.2 with ⟨_, h0⟩ | ⟨q, cap, cur, hv, hb, hq, hn, hm, hsz, htake⟩
  · rw [size_append] at h0
    omega
  · injection hv with h1 _ h2
    subst h1 h2
    rw [size_append] at hn
    refine .inr ⟨q, c, cur, rfl, hb, hq, by omega, hm, hsz, ?_⟩
    have e := congrArg (List.take (s.size * 1)) htake
    rw [List.take_take, strCells_append, size_append, Nat.min_eq_left (by omega)] at e
    rw [e, Nat.mul_one, ← hl]
    exact List.take_left

theorem Turns.cell {w w' : World} {g : Nat} {r : Option Nat} (h : Turns w w' g r) {q : Nat} (hq : q < w.heap.size) (hg : q ≠ g) (hr : some q ≠ r) (i : Nat) : w'.cell? ⟨q, i, none⟩ = w.cell? ⟨q, i, none⟩ :=
  World.cell?_of_block (w := w) (h.block q hq hg hr)

set_option maxRecDepth 100000 in
set_option maxHeartbeats 1000000 in
theorem listText_two (p t : ByteArray) (g q : Nat) (s : ByteArray) (r : Option Nat) (w : World) (hw : Wr w 154 5 g s r) (hsz : s.size ≤ 65536) (ht : t.size < 4294967296) (hp : p.size ≤ 4) (hp1 : 1 ≤ p.size)
    (hq0 : w.cell? ⟨q, 0, none⟩ = some (.string p)) (hq1 : w.cell? ⟨q, 1, none⟩ = some (.string t)) (hqg : q ≠ g) (hqr : some q ≠ r) (hql : q < w.heap.size) (s' : ByteArray) (k : Int) (hk : addPiece s (some (p ++ t)) = (s', k)) :
    Calls Try.prog 117 #[.pointer (some ⟨g, 0, none⟩), .slice (some ⟨q, 0, none⟩) 2 2, .func (.func 119) #[] #[]] w fun e w' =>
      ∃ r', e = .returned (.int .i64 k) ∧ Wr w' 154 5 g s' r' ∧ Fresh w r r' ∧ Turns w w' g r := by
  have c1 := hid (fun s => textTell_any s)
  obtain ⟨i0, hi, hz0, hz1, hz2⟩ := info_parts Try.infoU8
  have hlt := hw.lt.1
  obtain ⟨A, c, hH, hR, rfl, hrg⟩ := hw
  have hcell := hH.cell 0
  have hfr := hH.frozen 0
  simp at hcell
  by_cases hfit : s.size + p.size ≤ 65536
  · obtain ⟨sp, hsp0⟩ : ∃ sp, s ++ p = sp := ⟨_, rfl⟩
    have hz : sp.size ≤ 65536 ∧ s.size < sp.size := by rw [← hsp0, size_append]; omega
    obtain ⟨hz1', hz2'⟩ := hz
    have hback := hid (fun (w : World) A c => row_back (w := w) (e := 5) (s := s) (p := p) (A := A) (c := c))
    rw [hsp0] at hback
    by_cases hfit2 : sp.size + t.size ≤ 65536
    · rw [addPiece_fits (by rw [size_append, ← Nat.add_assoc, ← size_append, hsp0]; exact hfit2), ← append_assoc, hsp0] at hk
      obtain ⟨hs', rfl⟩ := Prod.mk.inj hk
      have hsp := hid hsp0
      have hsp' := hid hs'
      clear hk hs' hsp0
      go_enter Try.func117, Try.ntmps117
      go_wp2_with fail
      refine wp_loop_rounds 3 ?_
      rw [rounds_succ]
      go_wp2_with fail
      refine (c1.out p _).mono ?_
      rintro e w' ⟨rfl, rfl⟩
      go_wp2_with (at_builtin; (refine wpList_append_row rfl (.tmp 47) (.tmp 48) 62 9 rfl 5 i0 Try.underlying62 Try.underlying9 hi hz0 hz1 hz2 s p A c rfl rfl hR (by omega) sp hsp.out ?_); intro A2 c2 w2 hR2 hg2 hf2; have hH2 := hH.grown hg2 hrg.symm; have hcell2 := hH2.cell 0; have hfr2 := hH2.frozen 0; simp at hcell2)
      obtain ⟨a1, a2, a3⟩ := Wr.push (Below.refl _ _) hH hlt hrg hR2 hg2 hf2
      have hq1' := (a3.cell hql hqg hqr 1).trans hq1
      clear hcell hfr hcell2 hfr2 hH2 hq0 hq1 hR2 hg2 hf2
      generalize World.setCell _ _ _ = W at *
      obtain ⟨A3, c3, hH3, hR3, hr3', hrg3'⟩ := a1
      have hrg3 := hr3' ▸ hrg3'
      have hr3 := hid hr3'
      clear hr3' hrg3'
      have hcell3 := hH3.cell 0
      have hfr3 := hH3.frozen 0
      simp at hcell3
      rw [rounds_succ]
      go_wp2_with fail
      refine (c1.out t _).mono ?_
      rintro e w' ⟨rfl, rfl⟩
      go_wp2_with (at_builtin; (refine wpList_append_row rfl (.tmp 47) (.tmp 48) 62 9 rfl 5 i0 Try.underlying62 Try.underlying9 hi hz0 hz1 hz2 sp t A3 c3 rfl rfl hR3 (by omega) s' hsp'.out ?_); intro A4 c4 w4 hR4 hg4 hf4; have hH4 := hH3.grown hg4 hrg3.symm; have hcell4 := hH4.cell 0; have hfr4 := hH4.frozen 0; simp at hcell4)
      rw [rounds_succ]
      go_wp2
      go_ret
      obtain ⟨b1, b2, b3⟩ := Wr.push (Below.refl _ _) hH3 hH3.lt hrg3 hR4 hg4 hf4
      rw [hr3.out] at b2 b3
      exact ⟨_, rfl, b1, a2.trans b2 a3.size, a3.trans a2 b3⟩
    · have hlong : ¬ s.size + (p ++ t).size ≤ 65536 := by rw [size_append, ← Nat.add_assoc, ← size_append, hsp0]; exact hfit2
      rw [addPiece_long hlong] at hk
      obtain ⟨rfl, rfl⟩ := Prod.mk.inj hk
      have hsp := hid hsp0
      clear hk hsp0
      go_enter Try.func117, Try.ntmps117
      go_wp2_with fail
      refine wp_loop_rounds 3 ?_
      rw [rounds_succ]
      go_wp2_with fail
      refine (c1.out p _).mono ?_
      rintro e w' ⟨rfl, rfl⟩
      go_wp2_with (at_builtin; (refine wpList_append_row rfl (.tmp 47) (.tmp 48) 62 9 rfl 5 i0 Try.underlying62 Try.underlying9 hi hz0 hz1 hz2 s p A c rfl rfl hR (by omega) sp hsp.out ?_); intro A2 c2 w2 hR2 hg2 hf2; have hH2 := hH.grown hg2 hrg.symm; have hcell2 := hH2.cell 0; have hfr2 := hH2.frozen 0; simp at hcell2)
      obtain ⟨a1, a2, a3⟩ := Wr.push (Below.refl _ _) hH hlt hrg hR2 hg2 hf2
      have hq1' := (a3.cell hql hqg hqr 1).trans hq1
      clear hcell hfr hcell2 hfr2 hH2 hq0 hq1 hR2 hg2 hf2
      generalize World.setCell _ _ _ = W at *
      obtain ⟨A3, c3, hH3, hR3, hr3', hrg3'⟩ := a1
      have hrg3 := hr3' ▸ hrg3'
      have hr3 := hid hr3'
      clear hr3' hrg3'
      have hcell3 := hH3.cell 0
      have hfr3 := hH3.frozen 0
      simp at hcell3
      rw [rounds_succ]
      go_wp2_with fail
      refine (c1.out t _).mono ?_
      rintro e w' ⟨rfl, rfl⟩
      obtain ⟨q3, rfl, hle3⟩ := row_some hR3 (by omega)
      go_wp2
      go_ret
      refine ⟨_, rfl, ⟨_, _, hH3.set 0 _, (hback.out _ _ _ hR3 hp1).set hrg3 0 _, rfl, hrg3⟩, ?_, ?_⟩
      · have h := a2
        rw [← hr3.out] at h
        exact h
      · exact a3.trans a2 ((Turns.refl _ _ _).setCell 0 _)
  · rw [addPiece_long (by rw [size_append]; omega)] at hk
    obtain ⟨rfl, rfl⟩ := Prod.mk.inj hk
    clear hk
    obtain ⟨q', rfl, hle⟩ := row_some hR (by omega)
    go_enter Try.func117, Try.ntmps117
    go_wp2_with fail
    refine wp_loop_rounds 2 ?_
    rw [rounds_succ]
    go_wp2_with fail
    refine (c1.out p _).mono ?_
    rintro e w' ⟨rfl, rfl⟩
    go_wp2
    go_ret
    exact ⟨_, rfl, ⟨_, _, hH.set 0 _, hR.set hrg 0 _, rfl, hrg⟩, .inl rfl, (Turns.refl _ _ _).setCell 0 _⟩

set_option maxRecDepth 100000 in
set_option maxHeartbeats 400000 in
theorem WText_any (x : ByteArray) (hx : x.size ≤ 9223372036854775807) (size : Int) (g : Nat) (s : ByteArray) (r : Option Nat) (w : World) (hw : Wr w 154 5 g s r) (hsz : s.size ≤ 65536) (s' : ByteArray) (k : Int) (hk : addPiece s (textPiece x size) = (s', k)) :
    Calls Try.prog 97 #[.pointer (some ⟨g, 0, none⟩), .string x, .int .i64 size] w fun e w' =>
      ∃ r', e = .returned (.int .i64 k) ∧ Wr w' 154 5 g s' r' ∧ Fresh w r r' ∧ Turns w w' g r := by
  have c1 := hid (fits_any x.size size)
  cases hf : fitsB x.size size with
  | false =>
    have e : textPiece x size = none := by simp [textPiece, hf]
    rw [e, addPiece_none] at hk
    obtain ⟨rfl, rfl⟩ := Prod.mk.inj hk
    rw [hf] at c1
    clear hk hf e
    go_enter Try.func97, Try.ntmps97
    go_wp2_with fail
    refine (c1.out _).mono ?_
    rintro e w' ⟨rfl, rfl⟩
    go_wp2
    go_ret
    exact ⟨_, rfl, hw, .inl rfl, Turns.refl _ _ _⟩
  | true =>
    obtain ⟨hs, h0, h1⟩ := fitsB_yes hf
    have e : textPiece x size = some (be size.toNat (x.size : Int).toNat ++ x) := by simp [textPiece, hf]
    rw [e] at hk
    rw [hf] at c1
    have h2 : (x.size : Int) < 4294967296 := Int.lt_of_lt_of_le h1 (size_lt hs).2.2
    have c3 := hid (digits_any x.size size hs h0 h2)
    have hp : (be size.toNat (x.size : Int).toNat).size ≤ 4 ∧ 1 ≤ (be size.toNat (x.size : Int).toNat).size := by
      rw [be_size]
      have := size_lt hs
      omega
    have c2 := hid (fun q W r' hW hq0 hq1 hqg hqr hql => listText_two (be size.toNat (x.size : Int).toNat) x g q s r' W hW hsz (by omega) hp.1 hp.2 hq0 hq1 hqg hqr hql s' k hk)
    clear hf e h1 hk hs h0 h2 hp
    generalize be size.toNat (x.size : Int).toNat = p at *
    have hlt := hw.lt
    go_enter Try.func97, Try.ntmps97
    go_wp2_with fail
    refine (c1.out _).mono ?_
    rintro e w' ⟨rfl, rfl⟩
    go_wp2_with fail
    refine (c3.out _).mono ?_
    rintro e w1 ⟨rfl, hb1⟩
    have hw1 := hw.keep hb1
    have hs1 := hb1.size
    go_wp2_with fail
    refine (c2.out w1.heap.size _ r ?_ ?_ ?_ ?_ ?_ ?_).mono ?_
    · exact hw1.alloc _
    · exact (Holds.new w1 9 #[.string p, .string x]).cell 0
    · exact (Holds.new w1 9 #[.string p, .string x]).cell 1
    · exact Nat.ne_of_gt (Nat.lt_of_lt_of_le hlt.1 hs1)
    · intro e
      have := hlt.2 _ e.symm
      omega
    · simp
    rintro e w' ⟨r', rfl, h1, h2, h3⟩
    go_wp2
    go_ret
    exact ⟨_, rfl, h1, h2.back (by simp; omega), (Turns.of_below hb1 g r).alloc _ |>.trans (.inl rfl) h3⟩

set_option maxRecDepth 100000 in
theorem WAll_any (g : Nat) (s : ByteArray) (r : Option Nat) (w : World) (hw : Wr w 154 5 g s r) :
    Calls Try.prog 99 #[.pointer (some ⟨g, 0, none⟩)] w fun e w' => e = .returned (.string s) ∧ w = w' := by
  obtain ⟨A, c, hH, hR, _, _⟩ := hw
  have hcell := hH.cell 0
  simp at hcell
  have hc := run_convert_row (P := Try.prog) (w := w) (e := 5) 62 9 Try.underlying62 Try.underlying5 Try.underlying9 rfl hR
  go_enter Try.func99, Try.ntmps99
  go_wp2
  go_ret
  exact ⟨rfl, rfl⟩

end Go.Proofs.Ytapegklffglnoaa
