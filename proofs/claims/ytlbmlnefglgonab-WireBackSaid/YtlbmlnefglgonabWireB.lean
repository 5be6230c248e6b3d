/- Layer 3's things that were made since a block B: the contracts once more, with nothing below B turned. -/
import Derived.Test.YtlbmlnefglgonabWireR
namespace Go.Proofs.Ytlbmlnefglgonab
open Go.RowKit

/-- A Writer of the call's own. -/
def WrB (w : World) (B g : Nat) (s : ByteArray) : Prop := B ≤ w.heap.size ∧ B ≤ g ∧ ∃ r, Wr w 92 5 g s r ∧ ∀ k, r = some k → B ≤ k
/-- A Reader of the call's own. -/
def RdB (w : World) (B g : Nat) (s : ByteArray) : Prop := B ≤ w.heap.size ∧ B ≤ g ∧ Rd w g s

section
variable {w w' : World} {B g : Nat} {s : ByteArray}
theorem WrB.keep (h : WrB w B g s) (hb : Below w.heap.size w w') : WrB w' B g s := by
  obtain ⟨h1, h2, r, h3, h4⟩ := h
  exact ⟨Nat.le_trans h1 hb.size, h2, r, h3.keep hb, h4⟩
theorem RdB.keep (h : RdB w B g s) (hb : Below w.heap.size w w') : RdB w' B g s := ⟨Nat.le_trans h.1 hb.size, h.2.1, Holds.below h.2.2 hb (Holds.lt h.2.2)⟩
theorem WrB.fresh (w : World) (B : Nat) (hB : B ≤ w.heap.size) : WrB (w.alloc (.cells #[.slice none 0 0] 92)) B w.heap.size ByteArray.empty :=
  ⟨by simp; omega, hB, none, Wr.fresh w, fun k h => by cases h⟩
theorem RdB.fresh (w : World) (B : Nat) (s : ByteArray) (hB : B ≤ w.heap.size) : RdB (w.alloc (.cells #[.string s] 102)) B w.heap.size s :=
  ⟨by simp; omega, hB, Rd.fresh w s⟩
end

theorem wrB_after {w w' : World} {B g : Nat} {s s' : ByteArray} {r r' : Option Nat} (hB : B ≤ w.heap.size) (hg : B ≤ g) (hr : ∀ k, r = some k → B ≤ k) (h1 : Wr w' 92 5 g s' r') (h2 : Fresh w r r') (h3 : Turns w w' g r) :
    WrB w' B g s' ∧ Below B w w' :=
  ⟨⟨Nat.le_trans hB h3.size, hg, r', h1, h2.ge hr hB⟩, h3.below hg hr hB⟩

theorem WNumB (x size : Int) (B g : Nat) (s : ByteArray) (w : World) (hw : WrB w B g s) (hsz : s.size ≤ 65536) (s' : ByteArray) (k : Int) (hk : addPiece s (numPiece x size) = (s', k)) :
    Calls Try.prog 14 #[.pointer (some ⟨g, 0, none⟩), .int .i64 x, .int .i64 size] w fun e w' => e = .returned (.int .i64 k) ∧ WrB w' B g s' ∧ Below B w w' := by
  obtain ⟨hB, hg, r, h, hr⟩ := hw
  exact (WNum_any x size g s r w h hsz s' k hk).mono fun e w' ⟨r', he, h1, h2, h3⟩ => ⟨he, wrB_after (s := s) hB hg hr h1 h2 h3⟩

theorem WTextB (x : ByteArray) (hx : x.size ≤ 9223372036854775807) (size : Int) (B g : Nat) (s : ByteArray) (w : World) (hw : WrB w B g s) (hsz : s.size ≤ 65536) (s' : ByteArray) (k : Int) (hk : addPiece s (textPiece x size) = (s', k)) :
    Calls Try.prog 17 #[.pointer (some ⟨g, 0, none⟩), .string x, .int .i64 size] w fun e w' => e = .returned (.int .i64 k) ∧ WrB w' B g s' ∧ Below B w w' := by
  obtain ⟨hB, hg, r, h, hr⟩ := hw
  exact (WText_any x hx size g s r w h hsz s' k hk).mono fun e w' ⟨r', he, h1, h2, h3⟩ => ⟨he, wrB_after (s := s) hB hg hr h1 h2 h3⟩

theorem WAllB (B g : Nat) (s : ByteArray) (w : World) (hw : WrB w B g s) :
    Calls Try.prog 21 #[.pointer (some ⟨g, 0, none⟩)] w fun e w' => e = .returned (.string s) ∧ w = w' := by
  obtain ⟨hB, hg, r, h, hr⟩ := hw
  exact WAll_any g s r w h

theorem wireNewB (w : World) (B : Nat) (hB : B ≤ w.heap.size) : Calls Try.prog 13 #[] w fun e w' => e = .returned (.pointer (some ⟨w.heap.size, 0, none⟩)) ∧ WrB w' B w.heap.size ByteArray.empty ∧ Below w.heap.size w w' :=
  (wireNew_any w).mono fun e w' ⟨he, hw⟩ => by
    subst hw
    exact ⟨he, WrB.fresh w B hB, (Below.refl _ _).alloc (Nat.le_refl _) _⟩

theorem wireOpenB (s : ByteArray) (w : World) (B : Nat) (hB : B ≤ w.heap.size) : Calls Try.prog 24 #[.string s] w fun e w' => e = .returned (.pointer (some ⟨w.heap.size, 0, none⟩)) ∧ RdB w' B w.heap.size s ∧ Below w.heap.size w w' :=
  (wireOpen_any s w).mono fun e w' ⟨he, hw⟩ => by
    subst hw
    exact ⟨he, RdB.fresh w B s hB, (Below.refl _ _).alloc (Nat.le_refl _) _⟩

theorem rdB_after {w w' : World} {B g : Nat} {l : ByteArray} (hB : B ≤ w.heap.size) (hg : B ≤ g) (h1 : Rd w' g l) (h3 : w.grownBy w' (some g)) : RdB w' B g l ∧ Below B w w' :=
  ⟨⟨Nat.le_trans hB h3.size, hg, h1⟩, below_of_only (Below.refl B w) h3 hg hB⟩

theorem RNumB (B g : Nat) (s : ByteArray) (size : Int) (w : World) (h : RdB w B g s) (x k : Int) (l : ByteArray) (hk : readNum s size = (x, k, l)) :
    Calls Try.prog 25 #[.pointer (some ⟨g, 0, none⟩), .int .i64 size] w fun e w' => e = .returned (.tuple #[.int .i64 x, .int .i64 k]) ∧ RdB w' B g l ∧ Below B w w' :=
  (RNum_any g s size w h.2.2 x k l hk).mono fun e w' ⟨he, h1, h2⟩ => ⟨he, rdB_after h.1 h.2.1 h1 h2⟩

theorem RTextB (B g : Nat) (s : ByteArray) (hsz : s.size ≤ 140737488355328) (size : Int) (w : World) (h : RdB w B g s) (x : ByteArray) (k : Int) (l : ByteArray) (hk : readText s size = (x, k, l)) :
    Calls Try.prog 27 #[.pointer (some ⟨g, 0, none⟩), .int .i64 size] w fun e w' => e = .returned (.tuple #[.string x, .int .i64 k]) ∧ RdB w' B g l ∧ Below B w w' :=
  (RText_any g s hsz size w h.2.2 x k l hk).mono fun e w' ⟨he, h1, h2⟩ => ⟨he, rdB_after h.1 h.2.1 h1 h2⟩

theorem RLeftB (B g : Nat) (s : ByteArray) (w : World) (h : RdB w B g s) : Calls Try.prog 31 #[.pointer (some ⟨g, 0, none⟩)] w fun e w' => e = .returned (.int .i64 s.size) ∧ w = w' := RLeft_any g s w h.2.2

end Go.Proofs.Ytlbmlnefglgonab
