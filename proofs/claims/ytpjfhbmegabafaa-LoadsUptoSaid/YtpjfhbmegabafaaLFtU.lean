/- The statements' helper on error numbers (folder almonrylaw0).
   Layer 11: what every program answers that is one.
   Numbers cut to some bits, to a rest. No function of the program is named here.
   Layer 11: ObjectForms.
   Layer 12, the reference's side: Once, row.
   Layer 11: Clash: whether two unlike texts have one hash.
   Layer 12, the reference's side: BuildFile.
   Layer 12: files that are too long; what Load asks of an object.
   Layer 12, the program's side: isBlock, isNode. -/
import Derived.Test.YtpjfhbmegabafaaRows
import Derived.Test.YtpjfhbmegabafaaLBlock
import Derived.Test.YtpjfhbmegabafaaLObRf
import Derived.Test.YtpjfhbmegabafaaLObPr
import Derived.Test.YtpjfhbmegabafaaLShaNu
import Derived.IntWalk
import Derived.Test.YtpjfhbmegabafaaLFtE
import Derived.Test.YtpjfhbmegabafaaLBlkBase
import Derived.BigQuiet
namespace Go.Proofs.Ytpjfhbmegabafaa
open Go.RowKit

theorem errNum_any (x : Int) (w : World) : Calls Try.prog 13 #[.int .i64 x] w fun e w' => e = .returned (.int .i64 x) ∧ w = w' := by
  go_enter Try.func13, Try.ntmps13
  go_wp2
  go_ret
  exact ⟨rfl, rfl⟩

end Go.Proofs.Ytpjfhbmegabafaa
namespace Go.Proofs.Ytpjfhbmegabafaa
open Go.RowKit
open Go.Lib (strCells strCells_length strCells_oneCell)
attribute [local irreducible] Sha.compress Sha.blocks Sha.sha Sha.pad

end Go.Proofs.Ytpjfhbmegabafaa
namespace Go.Proofs.Ytpjfhbmegabafaa
open Go.RowKit

end Go.Proofs.Ytpjfhbmegabafaa
namespace Go.Proofs.Ytpjfhbmegabafaa
open Go.RowKit
open Go.Lib (strCells strCells_length strCells_oneCell)
attribute [local irreducible] Sha.compress Sha.blocks Sha.sha Sha.pad

end Go.Proofs.Ytpjfhbmegabafaa
namespace Go.Proofs.Ytpjfhbmegabafaa
open Go.RowKit
attribute [local irreducible] Sha.compress Sha.blocks Sha.sha Sha.pad

theorem txt_ne {s t : ByteArray} (h : s ≠ t) : (s.toList == t.toList) = false := beq_eq_false_iff_ne.2 fun e => h (bytes_ext (by rw [← Lib.toList_data, ← Lib.toList_data, e]))
end Go.Proofs.Ytpjfhbmegabafaa
namespace Go.Proofs.Ytpjfhbmegabafaa
open Go.RowKit
open Go.Lib (strCells strCells_length strCells_oneCell)
attribute [local irreducible] Sha.compress Sha.blocks Sha.sha Sha.pad

end Go.Proofs.Ytpjfhbmegabafaa
namespace Go.Proofs.Ytpjfhbmegabafaa
open Go.RowKit
attribute [local irreducible] Sha.compress Sha.blocks Sha.sha Sha.pad

section
variable {ops : Array Oper} {rest : List Oper} {a : Act} {w : World} {Q : Exit → Act → World → Prop}
end
/-- What BuildFile holds in its rounds: its objects, the hashes of this row (and those of the row before). -/
structure RbAt (w : World) (g : Nat) (W : World) (A5 : Option Addr) (m5 c5 : Nat) (A6 : Option Addr) (k c6 : Nat) (os : List ByteArray) (hs : List (List UInt8)) : Prop where
  obs : W.ownsRow (g + 1) 9 1 (.slice A5 m5 c5) m5 (strs os)
  row : W.ownsRow (g + 1) 33 32 (.slice A6 k c6) k (hashCells hs)
  res : Holds W g 33 z32.toList
  bel : Below g w W
section
variable {w W W' : World} {g m5 c5 k c6 : Nat} {A5 A6 : Option Addr} {os : List ByteArray} {hs : List (List UInt8)}
theorem RbAt.on (h : RbAt w g W A5 m5 c5 A6 k c6 os hs) (hb : Below W.heap.size W W') : RbAt w g W' A5 m5 c5 A6 k c6 os hs :=
  ⟨rown_onF h.obs hb, rown_onF h.row hb, h.res.below hb h.res.lt, h.bel.trans (hb.mono (Nat.le_of_lt h.res.lt))⟩
theorem RbAt.once {m' c' : Nat} {A' : Option Addr} {os' : List ByteArray} (h : RbAt w g W A5 m5 c5 A6 k c6 os hs) (hr : W'.ownsRow (g + 1) 9 1 (.slice A' m' c') m' (strs os')) (hg : W.grownBy W' (Value.slice A5 m5 c5).ownBlock) : RbAt w g W' A' m' c' A6 k c6 os' hs := by
  have hlo := fun q e => (h.obs.lt q e).1
  refine ⟨hr, rown_block h.row fun q hq => hg.block q (h.row.lt q hq).2 (fun e => ?_), h.res.grown hg (fun e => by have := hlo _ e.symm; omega), h.bel.trans ⟨hg.os, hg.tape, hg.output, hg.size, fun q hq => hg.block q (Nat.lt_trans hq h.res.lt) (fun e => by have := hlo _ e.symm; omega)⟩⟩
  obtain ⟨cs, h1⟩ := own_hold h.obs e.symm
  exact own_neF h.row hq h1 (by decide) rfl
theorem RbAt.push {k' c' : Nat} {A' : Option Addr} {hs' : List (List UInt8)} (h : RbAt w g W A5 m5 c5 A6 k c6 os hs) (hr : W'.ownsRow (g + 1) 33 32 (.slice A' k' c') k' (hashCells hs')) (hg : W.grownBy W' (Value.slice A6 k c6).ownBlock) : RbAt w g W' A5 m5 c5 A' k' c' os hs' := by
  have hlo := fun q e => (h.row.lt q e).1
  refine ⟨rown_block h.obs fun q hq => hg.block q (h.obs.lt q hq).2 (fun e => ?_), hr, h.res.grown hg (fun e => by have := hlo _ e.symm; omega), h.bel.trans ⟨hg.os, hg.tape, hg.output, hg.size, fun q hq => hg.block q (Nat.lt_trans hq h.res.lt) (fun e => by have := hlo _ e.symm; omega)⟩⟩
  obtain ⟨cs, h1⟩ := own_hold h.row e.symm
  exact own_neF h.obs hq h1 (by decide) rfl
end

/-- The same in the second loop: the row of hashes before, and this one. -/
structure Rb2 (w : World) (g s2 : Nat) (W : World) (A5 : Option Addr) (m5 c5 : Nat) (A6 : Option Addr) (k c6 : Nat) (A7 : Option Addr) (k2 c7 : Nat) (os : List ByteArray) (hs fs : List (List UInt8)) : Prop where
  rb : RbAt w g W A5 m5 c5 A6 k c6 os hs
  inn : W.ownsRow s2 33 32 (.slice A7 k2 c7) k2 (hashCells fs)
  lo : ∀ q, (Value.slice A6 k c6).ownBlock = some q → q < s2
  gs : g < s2 ∧ s2 ≤ W.heap.size
section
variable {w W W' : World} {g s2 m5 c5 k c6 k2 c7 : Nat} {A5 A6 A7 : Option Addr} {os : List ByteArray} {hs fs : List (List UInt8)}
theorem Rb2.on (h : Rb2 w g s2 W A5 m5 c5 A6 k c6 A7 k2 c7 os hs fs) (hb : Below W.heap.size W W') : Rb2 w g s2 W' A5 m5 c5 A6 k c6 A7 k2 c7 os hs fs :=
  ⟨h.rb.on hb, rown_onF h.inn hb, h.lo, h.gs.1, Nat.le_trans h.gs.2 hb.size⟩
theorem Rb2.once {m' c' : Nat} {A' : Option Addr} {os' : List ByteArray} (h : Rb2 w g s2 W A5 m5 c5 A6 k c6 A7 k2 c7 os hs fs) (hr : W'.ownsRow (g + 1) 9 1 (.slice A' m' c') m' (strs os')) (hg : W.grownBy W' (Value.slice A5 m5 c5).ownBlock) : Rb2 w g s2 W' A' m' c' A6 k c6 A7 k2 c7 os' hs fs := by
  refine ⟨h.rb.once hr hg, rown_block h.inn fun q hq => hg.block q (h.inn.lt q hq).2 (fun e => ?_), h.lo, h.gs.1, Nat.le_trans h.gs.2 hg.size⟩
  obtain ⟨cs, h1⟩ := own_hold h.rb.obs e.symm
  exact own_neF h.inn hq h1 (by decide) rfl
theorem Rb2.push {k' c' : Nat} {A' : Option Addr} {fs' : List (List UInt8)} (h : Rb2 w g s2 W A5 m5 c5 A6 k c6 A7 k2 c7 os hs fs) (hr : W'.ownsRow s2 33 32 (.slice A' k' c') k' (hashCells fs')) (hg : W.grownBy W' (Value.slice A7 k2 c7).ownBlock) : Rb2 w g s2 W' A5 m5 c5 A6 k c6 A' k' c' os hs fs' := by
  have hlo := fun q e => (h.inn.lt q e).1
  have hgs := h.gs
  refine ⟨⟨rown_block h.rb.obs fun q hq => hg.block q (h.rb.obs.lt q hq).2 (fun e => ?_), rown_block h.rb.row fun q hq => hg.block q (h.rb.row.lt q hq).2 (fun e => by have := hlo _ e.symm; have := h.lo q hq; omega), h.rb.res.grown hg (fun e => by have := hlo _ e.symm; omega), h.rb.bel.trans ⟨hg.os, hg.tape, hg.output, hg.size, fun q hq => hg.block q (Nat.lt_trans hq h.rb.res.lt) (fun e => by have := hlo _ e.symm; omega)⟩⟩, hr, h.lo, h.gs.1, Nat.le_trans h.gs.2 hg.size⟩
  obtain ⟨cs, h1⟩ := own_hold h.inn e.symm
  exact own_neF h.rb.obs hq h1 (by decide) rfl
end

end Go.Proofs.Ytpjfhbmegabafaa
namespace Go.Proofs.Ytpjfhbmegabafaa
open Go.RowKit
attribute [local irreducible] Sha.compress Sha.blocks Sha.sha Sha.pad

set_option maxRecDepth 100000 in
theorem build_long (data : ByteArray) (hd : 4096 < data.size) (w : World) :
    Calls Try.prog 25 #[.string data] w fun e w' => e = .returned (.tuple #[.agg z32, .slice none 0 0, .int .i64 1200]) ∧ Below w.heap.size w w' := by
  have hd' : (4096 : Int) < (data.size : Int) := by omega
  obtain ⟨g, hg⟩ : ∃ g, w.heap.size = g := ⟨_, rfl⟩
  have hgw := hid hg
  obtain ⟨W0, hW0⟩ : ∃ V, w.alloc (.cells z32 33) = V := ⟨_, rfl⟩
  have hZ := hid (show Holds W0 g 33 z32.toList from by rw [← hW0, ← hg]; exact Holds.new w _ z32)
  have hB := hid (show Below g w W0 from by rw [← hW0, ← hg]; exact (Below.refl _ _).alloc (Nat.le_refl _) _)
  have hW0' := hid hW0
  clear hg hW0
  go_enter Try.func25, Try.ntmps25
  go_wp2_with (first
    | ((with_reducible refine at_slot (some 2) ?_); refine wpList_run rfl (.pointer (some ⟨g, 0, none⟩)) (w.alloc (.cells z32 33)) (by rw [← hgw.out]; kernel_rfl) ?_; rw [hW0'.out])
    | ((with_reducible refine at_slot (some 15) ?_); refine wpList_run rfl (.agg z32) W0 (by kernel_rfl) ?_)
    | ((with_reducible refine at_slot none ?_); refine wpList_store_mid rfl 33 (.tmp 2) (.tmp 15) rfl g 0 z32 rfl rfl (by exact hZ.out.there 0 _ (Nat.le_refl 32)) (by kernel_rfl) (by kernel_rfl) ?_; generalize hW : World.setCells _ _ _ _ = W1; have hZ1 := hid (Holds.over (cs := z32.toList) hZ.out rfl hW); have hB1 := hid (show Below g w W1 from hB.out.trans (by rw [← hW]; exact below_setCells (Below.refl g _) g 0 _ (Nat.le_refl _))); clear hW)
    | fail)
  exact bodyPost_ret (results_ctt rfl _ _ g 33 z32 (0, 0) _ (.slice none 0 0) (.int .i64 1200) rfl rfl hZ1.out rfl Try.underlying33 rfl (by kernel_rfl)) rfl ⟨rfl, by rw [hgw.out]; exact hB1.out⟩
/-- What stands behind an object's head. -/
def insideT (x : ByteArray) : ByteArray := if x.extract 0 1 = ⟨#[66]⟩ then x.extract 1 x.size else x.extract 2 x.size
set_option maxRecDepth 100000 in
theorem inside_block (x : ByteArray) (h1 : 1 ≤ x.size) (h : x.extract 0 1 = ⟨#[66]⟩) (w : World) : Calls Try.prog 76 #[.string x] w fun e w' => e = .returned (.string (x.extract 1 x.size)) ∧ w' = w := by
  have h2 : ((x.extract 0 1).toList == [66]) = true := by rw [h]; kernel_rfl
  clear h
  go_enter Try.func76, Try.ntmps76
  go_wp2_with fail
  go_ret
  exact ⟨rfl, rfl⟩
set_option maxRecDepth 100000 in
theorem inside_node (x : ByteArray) (h1 : 2 ≤ x.size) (h : x.extract 0 1 ≠ ⟨#[66]⟩) (w : World) : Calls Try.prog 76 #[.string x] w fun e w' => e = .returned (.string (x.extract 2 x.size)) ∧ w' = w := by
  have h2 : ((x.extract 0 1).toList == [66]) = false := by rw [show ([66] : List UInt8) = (⟨#[66]⟩ : ByteArray).toList from by kernel_rfl]; exact txt_ne h
  have h3 : 1 ≤ x.size := by omega
  clear h
  go_enter Try.func76, Try.ntmps76
  go_wp2_with fail
  go_ret
  exact ⟨rfl, rfl⟩
set_option maxRecDepth 100000 in
theorem fpieces_any (n s : Nat) (hs : 1 ≤ s) (hs2 : s ≤ 100) (hn : n ≤ 4096) (w : World) : Calls Try.prog 50 #[.int .i64 (n : Int), .int .i64 (s : Int)] w fun e w' => e = .returned (.int .i64 (cutN s n : Int)) ∧ w' = w := by
  have u1 := IntWalk.i64_in ((n : Int) + (s : Int)) (by omega)
  have u2 := IntWalk.i64_in ((n : Int) + (s : Int) - 1) (by omega)
  have hz : ¬ (s : Int) = 0 := by omega
  have hq : ((n : Int) + (s : Int) - 1).tdiv (s : Int) = (cutN s n : Int) := by
    rw [show (n : Int) + (s : Int) - 1 = ((n + s - 1 : Nat) : Int) from by omega, ← Int.ofNat_tdiv]
    rfl
  have u3 := IntWalk.i64_in (cutN s n : Int) (by
    have : cutN s n ≤ n + s - 1 := Nat.div_le_self ..
    omega)
  go_enter Try.func50, Try.ntmps50
  go_wp2_with fail
  go_ret
  exact ⟨rfl, rfl⟩

end Go.Proofs.Ytpjfhbmegabafaa
namespace Go.Proofs.Ytpjfhbmegabafaa
open Go.RowKit
attribute [local irreducible] Sha.compress Sha.blocks Sha.sha Sha.pad

def isBlkT (x : ByteArray) (n : Nat) : Bool := decide (x.size = 1 + n) && ((x.extract 0 1).toList == [66])
set_option maxRecDepth 100000 in
theorem isBlock_any (x : ByteArray) (n : Nat) (hn : n ≤ 4096) (w : World) : Calls Try.prog 55 #[.string x, .int .i64 (n : Int)] w fun e w' => e = .returned (.bool (isBlkT x n)) ∧ w' = w := by
  have u1 := IntWalk.i64_in (1 + (n : Int)) (by omega)
  by_cases hz : x.size = 1 + n
  · have hd : ((x.size : Int) == 1 + (n : Int)) = true := by rw [beq_iff_eq]; omega
    have h1 : 1 ≤ x.size := by omega
    obtain ⟨b, hb⟩ : ∃ b, ((x.extract 0 1).toList == [66]) = b := ⟨_, rfl⟩
    have hres := hid (show isBlkT x n = b from by unfold isBlkT; rw [decide_eq_true hz, hb]; rfl)
    clear hz
    go_enter Try.func55, Try.ntmps55
    go_wp2_with fail
    go_ret
    exact ⟨by rw [hres.out]; rfl, rfl⟩
  · have hd : ((x.size : Int) == 1 + (n : Int)) = false := by rw [beq_eq_false_iff_ne]; omega
    have hres := hid (show isBlkT x n = false from by unfold isBlkT; rw [decide_eq_false hz]; rfl)
    clear hz
    go_enter Try.func55, Try.ntmps55
    go_wp2_with fail
    go_ret
    exact ⟨by rw [hres.out]; rfl, rfl⟩

def isNodeT (x mark : ByteArray) (n : Nat) : Bool := decide (x.size = 2 + n * 32) && ((x.extract 0 2).toList == (mark ++ be 1 n).toList)
set_option maxRecDepth 100000 in
set_option maxHeartbeats 1000000 in
theorem isNode_any (x mark : ByteArray) (n : Nat) (hn : n ≤ 255) (hm : mark.size = 1) (w : World) : Calls Try.prog 52 #[.string x, .string mark, .int .i64 (n : Int)] w fun e w' => e = .returned (.bool (isNodeT x mark n)) ∧ Below w.heap.size w w' := by
  have u1 := IntWalk.i64_in ((n : Int) * 32) (by omega)
  have u2 := IntWalk.i64_in (2 + (n : Int) * 32) (by omega)
  have hU8 := hid (fun V => U8_any n V)
  obtain ⟨bn, hbn⟩ : ∃ t, be 1 n = t := ⟨_, rfl⟩
  have hbs : bn.size = 1 := by rw [← hbn]; exact be_size ..
  rw [hbn] at hU8
  have hsum : ¬ 9223372036854775807 < mark.size + bn.size := by omega
  by_cases hz : x.size = 2 + n * 32
  · have hd : ((x.size : Int) == 2 + (n : Int) * 32) = true := by rw [beq_iff_eq]; omega
    have h1 : 2 ≤ x.size := by omega
    obtain ⟨b, hb⟩ : ∃ b, ((x.extract 0 2).toList == (mark ++ bn).toList) = b := ⟨_, rfl⟩
    have hres := hid (show isNodeT x mark n = b from by unfold isNodeT; rw [decide_eq_true hz, hbn, hb]; rfl)
    clear hz hbn
    go_enter Try.func52, Try.ntmps52
    go_wp2_with fail
    refine wp_region_held_drew (S := fun _ => True) (by kernel_rfl) (by exact trivial) (fun hHeld => ?_)
    obtain ⟨Wd, hWd⟩ : ∃ V, w.drew = V := ⟨_, rfl⟩
    have hb0 := hid (show Below w.heap.size w Wd from by rw [← hWd]; exact (Below.refl _ _).drew)
    rw [hWd]
    refine tkx 0 (.string x) hHeld ?_; simp only [ly, Act.put]
    refine tkx 1 (.int .i64 (x.size : Int)) hHeld ?_; simp only [ly, Act.put]
    refine tkx 2 (.int .i64 (n : Int)) hHeld ?_; simp only [ly, Act.put]
    refine tkx 3 (.int .i64 ((n : Int) * 32)) hHeld ?_; simp only [ly, Act.put]
    refine tkx 4 (.int .i64 (2 + (n : Int) * 32)) hHeld ?_; simp only [ly, Act.put]
    refine tkx 5 (.bool true) hHeld ?_; simp only [ly, Act.put]
    refine tkx 6 (.bool true) hHeld ?_; simp only [ly, Act.put]
    refine tkx 7 (.string x) hHeld ?_; simp only [ly, Act.put]
    refine tkx 8 (.string (x.extract 0 2)) hHeld ?_ (hy := .inl ⟨by kernel_rfl, fun w _ => by go_simp; intro h; omega⟩); simp only [ly, Act.put]
    refine tkx 9 (.string mark) hHeld ?_; simp only [ly, Act.put]
    refine tkx 10 (.int .i64 (n : Int)) hHeld ?_; simp only [ly, Act.put]
    refine wpAnyH_ready (rs := [11]) (by kernel_rfl) (by simp) (AllReadyH.cons rfl (fun K hK => ?_) AllReadyH.nil)
    have hK' := hid hK
    clear hK
    rw [if_pos (by kernel_rfl)]
    simp only [ly1, ly2, ly3]
    go_simp
    refine (hU8.out Wd).mono ?_
    rintro e W1 ⟨rfl, hb⟩
    have hB := hid (hb0.out.trans (hb.mono hb0.out.size))
    refine hK'.out _ _ (by exact trivial) (fun hHeld => ?_)
    clear hK' K hb
    refine tkx 12 (.string (mark ++ bn)) hHeld ?_; simp only [ly, Act.put]
    refine tkx 13 (.bool b) hHeld ?_; simp only [ly, Act.put]
    refine tkx 14 (.bool b) hHeld ?_; simp only [ly, Act.put]
    refine tkx 15 (.bool b) hHeld ?_; simp only [ly, Act.put]
    refine wpAnyH_done (by kernel_rfl) ?_ _
    go_wp2_with fail
    go_ret
    exact ⟨by rw [hres.out]; rfl, hB.out⟩
  · have hd : ((x.size : Int) == 2 + (n : Int) * 32) = false := by rw [beq_eq_false_iff_ne]; omega
    have hres := hid (show isNodeT x mark n = false from by unfold isNodeT; rw [decide_eq_false hz]; rfl)
    clear hz hbn
    go_enter Try.func52, Try.ntmps52
    go_wp2_with fail
    refine wp_region_held_drew (S := fun _ => True) (by kernel_rfl) (by exact trivial) (fun hHeld => ?_)
    obtain ⟨Wd, hWd⟩ : ∃ V, w.drew = V := ⟨_, rfl⟩
    have hb0 := hid (show Below w.heap.size w Wd from by rw [← hWd]; exact (Below.refl _ _).drew)
    rw [hWd]
    refine tkx 0 (.string x) hHeld ?_; simp only [ly, Act.put]
    refine tkx 1 (.int .i64 (x.size : Int)) hHeld ?_; simp only [ly, Act.put]
    refine tkx 2 (.int .i64 (n : Int)) hHeld ?_; simp only [ly, Act.put]
    refine tkx 3 (.int .i64 ((n : Int) * 32)) hHeld ?_; simp only [ly, Act.put]
    refine tkx 4 (.int .i64 (2 + (n : Int) * 32)) hHeld ?_; simp only [ly, Act.put]
    refine tkx 5 (.bool false) hHeld ?_; simp only [ly, Act.put]
    refine tkx 6 (.bool false) hHeld ?_; simp only [ly, Act.put]
    refine tkx 7 (undef) hHeld ?_; simp only [ly, Act.put]
    refine tkx 8 (undef) hHeld ?_; simp only [ly, Act.put]
    refine tkx 9 (undef) hHeld ?_; simp only [ly, Act.put]
    refine tkx 10 (undef) hHeld ?_; simp only [ly, Act.put]
    refine tkx 11 (undef) hHeld ?_; simp only [ly, Act.put]
    refine tkx 12 (undef) hHeld ?_; simp only [ly, Act.put]
    refine tkx 13 (undef) hHeld ?_; simp only [ly, Act.put]
    refine tkx 14 (.bool false) hHeld ?_; simp only [ly, Act.put]
    refine tkx 15 (.bool false) hHeld ?_; simp only [ly, Act.put]
    refine wpAnyH_done (by kernel_rfl) ?_ _
    go_wp2_with fail
    go_ret
    exact ⟨by rw [hres.out]; rfl, hb0.out⟩

end Go.Proofs.Ytpjfhbmegabafaa
