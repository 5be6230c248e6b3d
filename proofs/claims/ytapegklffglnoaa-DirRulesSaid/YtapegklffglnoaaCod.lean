/- The codec's Writer: what has several parts, where all of it may be written. -/
import Derived.Test.YtapegklffglnoaaWireW2
import Derived.Test.YtapegklffglnoaaWireH
import Derived.Test.YtapegklffglnoaaYields
namespace Go.Proofs.Ytapegklffglnoaa
open Go.RowKit
open Go.Lib (strCells strCells_length strCells_oneCell)

/-- A codec's Writer (block g) over a wire's Writer (block h, whose row is r): s has been written; has it failed? -/
def Cw (w : World) (g h : Nat) (s : ByteArray) (f : Bool) (r : Option Nat) : Prop :=
  Holds w g 130 [.pointer (some ⟨h, 0, none⟩), .bool f] ∧ Wr w 154 5 h s r ∧ g ≠ h ∧ r ≠ some g

/-- Blocks that are held besides: number, type, cells. -/
abbrev Exts := List (Nat × TypeId × List Value)

/-- What else is known of a Writer of a call that began when B blocks lay there. -/
def PutRest (w : World) (B g h : Nat) (ext : Exts) (r : Option Nat) : Prop :=
  (∀ x ∈ ext, Holds w x.1 x.2.1 x.2.2 ∧ x.1 ≠ g ∧ x.1 ≠ h ∧ r ≠ some x.1) ∧ B ≤ g ∧ B ≤ h ∧ (∀ k, r = some k → B ≤ k) ∧ B ≤ w.heap.size

/-- A Writer that holds s; nothing has failed. -/
def PutSt (w : World) (B g h : Nat) (s : ByteArray) (ext : Exts) : Prop := ∃ r, Cw w g h s false r ∧ PutRest w B g h ext r

section
variable {w w' : World} {B g h : Nat} {s s' : ByteArray} {f : Bool} {r r' : Option Nat} {ext : Exts}

theorem Cw.keep (hw : Cw w g h s f r) (hb : Below w.heap.size w w') : Cw w' g h s f r := ⟨hw.1.below hb hw.1.lt, hw.2.1.keep hb, hw.2.2⟩

/-- Behind a call that writes into the wire's Writer. -/
theorem Cw.wrote (hw : Cw w g h s f r) (h1 : Wr w' 154 5 h s' r') (h2 : Fresh w r r') (h3 : Turns w w' h r) : Cw w' g h s' f r' :=
  ⟨h3.holds hw.1 hw.2.2.1 hw.2.2.2.symm, h1, hw.2.2.1, h2.ne hw.2.2.2 hw.1.lt⟩

theorem Cw.lt (hw : Cw w g h s f r) : g < w.heap.size ∧ h < w.heap.size ∧ ∀ k, r = some k → k < w.heap.size := ⟨hw.1.lt, hw.2.1.lt.1, hw.2.1.lt.2⟩

theorem PutSt.keep (hp : PutSt w B g h s ext) (hb : Below w.heap.size w w') : PutSt w' B g h s ext := by
  obtain ⟨r, h1, h2, h6, h7, h8, h10⟩ := hp
  exact ⟨r, h1.keep hb, fun x hx => ⟨(h2 x hx).1.below hb (h2 x hx).1.lt, (h2 x hx).2⟩, h6, h7, h8, Nat.le_trans h10 hb.size⟩

theorem PutSt.drewN (hp : PutSt w B g h s ext) (n : Nat) : PutSt (w.drewN n) B g h s ext := hp.keep (below_drewN (Below.refl _ _) n)

/-- A new block is held, too. -/
theorem PutSt.with (hp : PutSt w B g h s ext) (cs : Array Value) (t : TypeId) : PutSt (w.alloc (.cells cs t)) B g h s ((w.heap.size, t, cs.toList) :: ext) := by
  obtain ⟨r, h1, h2, h6, h7, h8, h10⟩ := hp
  have hb : Below w.heap.size w (w.alloc (.cells cs t)) := (Below.refl _ _).alloc (Nat.le_refl _) _
  obtain ⟨l1, l2, l3⟩ := h1.lt
  refine ⟨r, h1.keep hb, fun x hx => ?_, h6, h7, h8, Nat.le_trans h10 hb.size⟩
  rcases List.mem_cons.1 hx with rfl | hx
  · exact ⟨Holds.new w t cs, by show w.heap.size ≠ g; omega, by show w.heap.size ≠ h; omega, fun e => by have := l3 _ e; omega⟩
  · exact ⟨(h2 x hx).1.below hb (h2 x hx).1.lt, (h2 x hx).2⟩

theorem PutSt.sub {ext' : Exts} (hp : PutSt w B g h s ext) (hs : ∀ x ∈ ext', x ∈ ext) : PutSt w B g h s ext' := by
  obtain ⟨r, h1, h2, hrest⟩ := hp
  exact ⟨r, h1, fun x hx => h2 x (hs x hx), hrest⟩

theorem PutSt.size (hp : PutSt w B g h s ext) : B ≤ w.heap.size := by
  obtain ⟨r, _, _, _, _, _, h⟩ := hp
  exact h

theorem PutSt.held (hp : PutSt w B g h s ext) {q : Nat} {t : TypeId} {cs : List Value} (hx : (q, t, cs) ∈ ext) : Holds w q t cs := by
  obtain ⟨r, _, h2, _⟩ := hp
  exact (h2 _ hx).1

theorem PutSt.good (hp : PutSt w B g h s ext) : w.cell? ⟨g, 1, none⟩ = some (.bool false) := by
  obtain ⟨r, h1, _⟩ := hp
  have := h1.1.cell 1
  simpa using this

/-- A piece more. -/
theorem putSt_wrote (hC : Cw w g h s false r) (hr : PutRest w B g h ext r) (k1 : Wr w' 154 5 h s' r') (k2 : Fresh w r r') (k3 : Turns w w' h r) : PutSt w' B g h s' ext ∧ Below B w w' := by
  obtain ⟨h2, h6, h7, h8, h10⟩ := hr
  exact ⟨⟨r', hC.wrote k1 k2 k3, fun x hx => ⟨k3.holds (h2 x hx).1 (h2 x hx).2.2.1 (h2 x hx).2.2.2.symm, (h2 x hx).2.1, (h2 x hx).2.2.1, k2.ne (h2 x hx).2.2.2 (h2 x hx).1.lt⟩, h6, h7, k2.ge h8 h10, Nat.le_trans h10 k3.size⟩, k3.below h7 h8 h10⟩
end

set_option maxRecDepth 100000 in
theorem cnote_ok (g : Nat) (w : World) : Calls Try.prog 96 #[.pointer (some ⟨g, 0, none⟩), .int .i64 0] w fun e w' => e = .returned (.tuple #[]) ∧ w = w' := by
  go_enter Try.func96, Try.ntmps96
  go_wp2
  go_end0
  exact ⟨rfl, rfl⟩

set_option maxRecDepth 100000 in
set_option maxHeartbeats 400000 in
theorem cNum_any (x size : Int) (hf : fitsB x size = true) (B g h : Nat) (s : ByteArray) (ext : Exts) (w : World) (hp : PutSt w B g h s ext) (hsz : s.size + size.toNat ≤ 65536) :
    Calls Try.prog 57 #[.pointer (some ⟨g, 0, none⟩), .int .i64 x, .int .i64 size] w fun e w' => e = .returned (.tuple #[]) ∧ PutSt w' B g h (s ++ be size.toNat x.toNat) ext ∧ Below B w w' := by
  have hk : addPiece s (numPiece x size) = (s ++ be size.toNat x.toNat, 0) := by
    unfold numPiece
    rw [if_pos hf]
    exact addPiece_fits (by rw [be_size]; exact hsz)
  obtain ⟨r, hC, hrest⟩ := hp
  have hW := WNum_any x size h s r w hC.2.1 (by omega) _ 0 hk
  have hc := hC.1.cell 0
  simp at hc
  have hC' := hid hC
  have hr' := hid hrest
  have hW' := hid hW
  clear hrest hW hC hk
  go_enter Try.func57, Try.ntmps57
  go_wp2_with fail
  refine hW'.out.mono ?_
  rintro e w1 ⟨r', rfl, h1, h2, h3⟩
  have hend := hid (putSt_wrote hC'.out hr'.out h1 h2 h3)
  go_wp2_with (go_at_call 96; refine (cnote_ok _ _).mono ?_; rintro e w' ⟨rfl, rfl⟩)
  go_end0
  exact ⟨rfl, hend.out⟩

set_option maxRecDepth 100000 in
set_option maxHeartbeats 400000 in
theorem cText_any (x : ByteArray) (size : Int) (hf : fitsB x.size size = true) (hx : x.size ≤ 65536) (B g h : Nat) (s : ByteArray) (ext : Exts) (w : World) (hp : PutSt w B g h s ext) (hsz : s.size + size.toNat + x.size ≤ 65536) :
    Calls Try.prog 56 #[.pointer (some ⟨g, 0, none⟩), .string x, .int .i64 size] w fun e w' => e = .returned (.tuple #[]) ∧ PutSt w' B g h (s ++ (be size.toNat x.size ++ x)) ext ∧ Below B w w' := by
  have hk : addPiece s (textPiece x size) = (s ++ (be size.toNat x.size ++ x), 0) := by
    unfold textPiece
    rw [if_pos hf]
    exact addPiece_fits (by rw [size_append, be_size]; omega)
  obtain ⟨r, hC, hrest⟩ := hp
  have hW := WText_any x (by omega) size h s r w hC.2.1 (by omega) _ 0 hk
  have hc := hC.1.cell 0
  simp at hc
  have hC' := hid hC
  have hr' := hid hrest
  have hW' := hid hW
  clear hrest hW hC hk
  go_enter Try.func56, Try.ntmps56
  go_wp2_with fail
  refine hW'.out.mono ?_
  rintro e w1 ⟨r', rfl, h1, h2, h3⟩
  have hend := hid (putSt_wrote hC'.out hr'.out h1 h2 h3)
  go_wp2_with (go_at_call 96; refine (cnote_ok _ _).mono ?_; rintro e w' ⟨rfl, rfl⟩)
  go_end0
  exact ⟨rfl, hend.out⟩

set_option maxRecDepth 100000 in
theorem codecNew_any (w : World) : Calls Try.prog 52 #[] w fun e w' => e = .returned (.pointer (some ⟨w.heap.size + 1, 0, none⟩)) ∧
    w' = (w.alloc (.cells #[.slice none 0 0] 154)).alloc (.cells #[.pointer (some ⟨w.heap.size, 0, none⟩), .bool false] 130) := by
  go_enter Try.func52, Try.ntmps52
  go_wp2_with (go_at_call 95; refine (wireNew_any _).mono ?_; rintro e w' ⟨rfl, rfl⟩)
  go_ret
  exact ⟨by simp, rfl⟩

/-- The Writer that New gives, in a variable. -/
theorem PutSt.fresh (w : World) : PutSt (((w.alloc (.cells #[.slice none 0 0] 154)).alloc (.cells #[.pointer (some ⟨w.heap.size, 0, none⟩), .bool false] 130)).alloc (.cells #[.pointer (some ⟨w.heap.size + 1, 0, none⟩)] 84))
    w.heap.size (w.heap.size + 1) w.heap.size ByteArray.empty [(w.heap.size + 1 + 1, 84, [.pointer (some ⟨w.heap.size + 1, 0, none⟩)])] := by
  have h0 : PutSt ((w.alloc (.cells #[.slice none 0 0] 154)).alloc (.cells #[.pointer (some ⟨w.heap.size, 0, none⟩), .bool false] 130)) w.heap.size (w.heap.size + 1) w.heap.size ByteArray.empty [] := by
    refine ⟨none, ⟨?_, ?_, by omega, fun h => by cases h⟩, fun x hx => (by cases hx), by omega, Nat.le_refl _, fun k h => (by cases h), by simp; omega⟩
    · exact heap_at _ _ _ (by simp)
    · exact (Wr.fresh w).alloc _
  have h1 := h0.with #[.pointer (some ⟨w.heap.size + 1, 0, none⟩)] 84
  have e : ((w.alloc (.cells #[.slice none 0 0] 154)).alloc (.cells #[.pointer (some ⟨w.heap.size, 0, none⟩), .bool false] 130)).heap.size = w.heap.size + 1 + 1 := by simp
  rw [e] at h1
  exact h1

set_option maxRecDepth 100000 in
/-- All that was written. -/
theorem cAll_any (B g h : Nat) (s : ByteArray) (ext : Exts) (w : World) (hp : PutSt w B g h s ext) :
    Calls Try.prog 58 #[.pointer (some ⟨g, 0, none⟩)] w fun e w' => e = .returned (.tuple #[.string s, .bool true]) ∧ Below B w w' := by
  have hg := hp.good
  obtain ⟨r, hC, hrest⟩ := hp
  have hc := hC.1.cell 0
  simp at hc
  have hA := hid (WAll_any h s r w hC.2.1)
  clear hC hrest
  go_enter Try.func58, Try.ntmps58
  go_wp2_with (go_at_call 99; refine hA.out.mono ?_; rintro e w' ⟨rfl, rfl⟩)
  go_ret2
  exact ⟨rfl, Below.refl _ _⟩

/-- A text of one byte, written without its length. -/
theorem one_be (c : UInt8) : be (1 : Int).toNat ((c.toNat : Int)).toNat = ⟨#[c]⟩ := by
  apply bytes_ext
  show beL 1 c.toNat = [c]
  rw [beL_succ]
  show [] ++ [UInt8.ofNat c.toNat] = [c]
  rw [UInt8.ofNat_toNat]
  rfl

set_option maxRecDepth 100000 in
set_option maxHeartbeats 400000 in
theorem cMark_any (c : UInt8) (B g h : Nat) (s : ByteArray) (ext : Exts) (w : World) (hp : PutSt w B g h s ext) (hsz : s.size + 1 ≤ 65536) :
    Calls Try.prog 53 #[.pointer (some ⟨g, 0, none⟩), .string ⟨#[c]⟩] w fun e w' => e = .returned (.tuple #[]) ∧ PutSt w' B g h (s ++ ⟨#[c]⟩) ext ∧ Below B w w' := by
  have hN := cNum_any (c.toNat : Int) 1 (fitsB_mk (by decide) (by omega) (by have := c.toNat_lt; show (c.toNat : Int) < 256; omega)) B g h s ext w hp (by show s.size + 1 ≤ _; exact hsz)
  rw [one_be] at hN
  have hN' := hid hN
  have hsp := hid hp
  have hb0 : (⟨#[c]⟩ : ByteArray)[0]'(by show 0 < 1; decide) = c := rfl
  have hc8 : (c.toNat : Int) < 256 := by have := c.toNat_lt; omega
  clear hN hp
  go_enter Try.func53, Try.ntmps53
  go_wp2_with fail
  refine wp_loop_rounds 2 ?_
  rw [rounds_succ]
  go_wp2_with fail
  refine hN'.out.mono ?_
  rintro e w1 ⟨rfl, h1, h2⟩
  have h1' := hid h1
  have h2' := hid h2
  clear h1 h2
  go_wp2_with fail
  rw [rounds_succ]
  go_wp2_with fail
  go_end0
  exact ⟨rfl, h1'.out, h2'.out⟩

theorem h32_row {H : Array Value} {w : World} {q o : Nat} {t : TypeId} {cs : List Value} (h : Holds w q t cs) (hc : ∀ j, j < H.toList.length → cs[o + j]? = H.toList[j]?) : w.rangeAt q o H.toList := h.range o H.toList hc

end Go.Proofs.Ytapegklffglnoaa
