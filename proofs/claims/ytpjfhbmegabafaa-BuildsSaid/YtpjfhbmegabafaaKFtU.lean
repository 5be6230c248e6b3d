/- Layer 12: files that are too long; what Load asks of an object.
   Layer 12, the program's side: isBlock, isNode. -/
import Derived.Test.YtpjfhbmegabafaaKFtS
import Derived.BigQuiet
namespace Go.Proofs.Ytpjfhbmegabafaa
open Go.RowKit
attribute [local irreducible] Sha.compress Sha.blocks Sha.sha Sha.pad

set_option maxRecDepth 100000 in
theorem build_long (data : ByteArray) (hd : 4096 < data.size) (w : World) :
    Calls Try.prog 25 #[.string data] w fun e w' => e = .returned (.tuple #[.agg z32, .slice none 0 0, .int .i64 1200]) ∧ Below w.heap.size w w' := by
  have hd' : (4096 : Int) < (data.size : Int) := by omega
  obtain ⟨g, hg⟩ : ∃ g, w.heap.size = g := ⟨_, rfl⟩
  have hgw := hid hg
  obtain ⟨W0, hW0⟩ : ∃ V, w.alloc (.cells z32 33) = V := ⟨_, rfl⟩
  have hZ := hid (show Holds W0 g 33 z32.toList from by rw [← hW0, ← hg]; exact Holds.new w _ z32)
  have hB := hid (show Below g w W0 from by rw [← hW0, ← hg]; exact (Below.refl _ _).alloc (Nat.le_refl _) _)
  have hW0' := hid hW0
  clear hg hW0
  go_enter Try.func25, Try.ntmps25
  go_wp2_with (first
    | ((with_reducible refine at_slot (some 2) ?_); refine wpList_run rfl (.pointer (some ⟨g, 0, none⟩)) (w.alloc (.cells z32 33)) (by rw [← hgw.out]; kernel_rfl) ?_; rw [hW0'.out])
    | ((with_reducible refine at_slot (some 15) ?_); refine wpList_run rfl (.agg z32) W0 (by kernel_rfl) ?_)
    | ((with_reducible refine at_slot none ?_); refine wpList_store_mid rfl 33 (.tmp 2) (.tmp 15) rfl g 0 z32 rfl rfl (by exact hZ.out.there 0 _ (Nat.le_refl 32)) (by kernel_rfl) (by kernel_rfl) ?_; generalize hW : World.setCells _ _ _ _ = W1; have hZ1 := hid (Holds.over (cs := z32.toList) hZ.out rfl hW); have hB1 := hid (show Below g w W1 from hB.out.trans (by rw [← hW]; exact below_setCells (Below.refl g _) g 0 _ (Nat.le_refl _))); clear hW)
    | fail)
  exact bodyPost_ret (results_ctt rfl _ _ g 33 z32 (0, 0) _ (.slice none 0 0) (.int .i64 1200) rfl rfl hZ1.out rfl Try.underlying33 rfl (by kernel_rfl)) rfl ⟨rfl, by rw [hgw.out]; exact hB1.out⟩
set_option maxRecDepth 100000 in
theorem refBuild_long (data : ByteArray) (hd : 4096 < data.size) (w : World) :
    Calls Try.prog 26 #[.string data] w fun e w' => e = .returned (.tuple #[.agg z32, .slice none 0 0, .int .i64 1200]) ∧ Below w.heap.size w w' := by
  have hd' : (4096 : Int) < (data.size : Int) := by omega
  obtain ⟨g, hg⟩ : ∃ g, w.heap.size = g := ⟨_, rfl⟩
  have hgw := hid hg
  obtain ⟨W0, hW0⟩ : ∃ V, w.alloc (.cells z32 33) = V := ⟨_, rfl⟩
  have hZ := hid (show Holds W0 g 33 z32.toList from by rw [← hW0, ← hg]; exact Holds.new w _ z32)
  have hB := hid (show Below g w W0 from by rw [← hW0, ← hg]; exact (Below.refl _ _).alloc (Nat.le_refl _) _)
  have hW0' := hid hW0
  clear hg hW0
  go_enter Try.func26, Try.ntmps26
  go_wp2_with (first
    | ((with_reducible refine at_slot (some 2) ?_); refine wpList_run rfl (.pointer (some ⟨g, 0, none⟩)) (w.alloc (.cells z32 33)) (by rw [← hgw.out]; kernel_rfl) ?_; rw [hW0'.out])
    | ((with_reducible refine at_slot (some 16) ?_); refine wpList_run rfl (.agg z32) W0 (by kernel_rfl) ?_)
    | ((with_reducible refine at_slot none ?_); refine wpList_store_mid rfl 33 (.tmp 2) (.tmp 16) rfl g 0 z32 rfl rfl (by exact hZ.out.there 0 _ (Nat.le_refl 32)) (by kernel_rfl) (by kernel_rfl) ?_; generalize hW : World.setCells _ _ _ _ = W1; have hZ1 := hid (Holds.over (cs := z32.toList) hZ.out rfl hW); have hB1 := hid (show Below g w W1 from hB.out.trans (by rw [← hW]; exact below_setCells (Below.refl g _) g 0 _ (Nat.le_refl _))); clear hW)
    | fail)
  exact bodyPost_ret (results_ctt rfl _ _ g 33 z32 (0, 0) _ (.slice none 0 0) (.int .i64 1200) rfl rfl hZ1.out rfl Try.underlying33 rfl (by kernel_rfl)) rfl ⟨rfl, by rw [hgw.out]; exact hB1.out⟩

/-- What stands behind an object's head. -/
def insideT (x : ByteArray) : ByteArray := if x.extract 0 1 = ⟨#[66]⟩ then x.extract 1 x.size else x.extract 2 x.size
set_option maxRecDepth 100000 in
theorem inside_block (x : ByteArray) (h1 : 1 ≤ x.size) (h : x.extract 0 1 = ⟨#[66]⟩) (w : World) : Calls Try.prog 76 #[.string x] w fun e w' => e = .returned (.string (x.extract 1 x.size)) ∧ w' = w := by
  have h2 : ((x.extract 0 1).toList == [66]) = true := by rw [h]; kernel_rfl
  clear h
  go_enter Try.func76, Try.ntmps76
  go_wp2_with fail
  go_ret
  exact ⟨rfl, rfl⟩
set_option maxRecDepth 100000 in
theorem inside_node (x : ByteArray) (h1 : 2 ≤ x.size) (h : x.extract 0 1 ≠ ⟨#[66]⟩) (w : World) : Calls Try.prog 76 #[.string x] w fun e w' => e = .returned (.string (x.extract 2 x.size)) ∧ w' = w := by
  have h2 : ((x.extract 0 1).toList == [66]) = false := by rw [show ([66] : List UInt8) = (⟨#[66]⟩ : ByteArray).toList from by kernel_rfl]; exact txt_ne h
  have h3 : 1 ≤ x.size := by omega
  clear h
  go_enter Try.func76, Try.ntmps76
  go_wp2_with fail
  go_ret
  exact ⟨rfl, rfl⟩
set_option maxRecDepth 100000 in
theorem fpieces_any (n s : Nat) (hs : 1 ≤ s) (hs2 : s ≤ 100) (hn : n ≤ 4096) (w : World) : Calls Try.prog 50 #[.int .i64 (n : Int), .int .i64 (s : Int)] w fun e w' => e = .returned (.int .i64 (cutN s n : Int)) ∧ w' = w := by
  have u1 := IntWalk.i64_in ((n : Int) + (s : Int)) (by omega)
  have u2 := IntWalk.i64_in ((n : Int) + (s : Int) - 1) (by omega)
  have hz : ¬ (s : Int) = 0 := by omega
  have hq : ((n : Int) + (s : Int) - 1).tdiv (s : Int) = (cutN s n : Int) := by
    rw [show (n : Int) + (s : Int) - 1 = ((n + s - 1 : Nat) : Int) from by omega, ← Int.ofNat_tdiv]
    rfl
  have u3 := IntWalk.i64_in (cutN s n : Int) (by
    have : cutN s n ≤ n + s - 1 := Nat.div_le_self ..
    omega)
  go_enter Try.func50, Try.ntmps50
  go_wp2_with fail
  go_ret
  exact ⟨rfl, rfl⟩

end Go.Proofs.Ytpjfhbmegabafaa
namespace Go.Proofs.Ytpjfhbmegabafaa
open Go.RowKit
attribute [local irreducible] Sha.compress Sha.blocks Sha.sha Sha.pad

def isBlkT (x : ByteArray) (n : Nat) : Bool := decide (x.size = 1 + n) && ((x.extract 0 1).toList == [66])
set_option maxRecDepth 100000 in
theorem isBlock_any (x : ByteArray) (n : Nat) (hn : n ≤ 4096) (w : World) : Calls Try.prog 55 #[.string x, .int .i64 (n : Int)] w fun e w' => e = .returned (.bool (isBlkT x n)) ∧ w' = w := by
  have u1 := IntWalk.i64_in (1 + (n : Int)) (by omega)
  by_cases hz : x.size = 1 + n
  · have hd : ((x.size : Int) == 1 + (n : Int)) = true := by rw [beq_iff_eq]; omega
    have h1 : 1 ≤ x.size := by omega
    obtain ⟨b, hb⟩ : ∃ b, ((x.extract 0 1).toList == [66]) = b := ⟨_, rfl⟩
    have hres := hid (show isBlkT x n = b from by unfold isBlkT; rw [decide_eq_true hz, hb]; rfl)
    clear hz
    go_enter Try.func55, Try.ntmps55
    go_wp2_with fail
    go_ret
    exact ⟨by rw [hres.out]; rfl, rfl⟩
  · have hd : ((x.size : Int) == 1 + (n : Int)) = false := by rw [beq_eq_false_iff_ne]; omega
    have hres := hid (show isBlkT x n = false from by unfold isBlkT; rw [decide_eq_false hz]; rfl)
    clear hz
    go_enter Try.func55, Try.ntmps55
    go_wp2_with fail
    go_ret
    exact ⟨by rw [hres.out]; rfl, rfl⟩

def isNodeT (x mark : ByteArray) (n : Nat) : Bool := decide (x.size = 2 + n * 32) && ((x.extract 0 2).toList == (mark ++ be 1 n).toList)
set_option maxRecDepth 100000 in
set_option maxHeartbeats 1000000 in
theorem isNode_any (x mark : ByteArray) (n : Nat) (hn : n ≤ 255) (hm : mark.size = 1) (w : World) : Calls Try.prog 52 #[.string x, .string mark, .int .i64 (n : Int)] w fun e w' => e = .returned (.bool (isNodeT x mark n)) ∧ Below w.heap.size w w' := by
  have u1 := IntWalk.i64_in ((n : Int) * 32) (by omega)
  have u2 := IntWalk.i64_in (2 + (n : Int) * 32) (by omega)
  have hU8 := hid (fun V => U8_any n V)
  obtain ⟨bn, hbn⟩ : ∃ t, be 1 n = t := ⟨_, rfl⟩
  have hbs : bn.size = 1 := by rw [← hbn]; exact be_size ..
  rw [hbn] at hU8
  have hsum : ¬ 9223372036854775807 < mark.size + bn.size := by omega
  by_cases hz : x.size = 2 + n * 32
  · have hd : ((x.size : Int) == 2 + (n : Int) * 32) = true := by rw [beq_iff_eq]; omega
    have h1 : 2 ≤ x.size := by omega
    obtain ⟨b, hb⟩ : ∃ b, ((x.extract 0 2).toList == (mark ++ bn).toList) = b := ⟨_, rfl⟩
    have hres := hid (show isNodeT x mark n = b from by unfold isNodeT; rw [decide_eq_true hz, hbn, hb]; rfl)
    clear hz hbn
    go_enter Try.func52, Try.ntmps52
    go_wp2_with fail
    refine wp_region_held_drew (S := fun _ => True) (by kernel_rfl) (by exact trivial) (fun hHeld => ?_)
    obtain ⟨Wd, hWd⟩ : ∃ V, w.drew = V := ⟨_, rfl⟩
    have hb0 := hid (show Below w.heap.size w Wd from by rw [← hWd]; exact (Below.refl _ _).drew)
    rw [hWd]
    refine tkx 0 (.string x) hHeld ?_; simp only [ly, Act.put]
    refine tkx 1 (.int .i64 (x.size : Int)) hHeld ?_; simp only [ly, Act.put]
    refine tkx 2 (.int .i64 (n : Int)) hHeld ?_; simp only [ly, Act.put]
    refine tkx 3 (.int .i64 ((n : Int) * 32)) hHeld ?_; simp only [ly, Act.put]
    refine tkx 4 (.int .i64 (2 + (n : Int) * 32)) hHeld ?_; simp only [ly, Act.put]
    refine tkx 5 (.bool true) hHeld ?_; simp only [ly, Act.put]
    refine tkx 6 (.bool true) hHeld ?_; simp only [ly, Act.put]
    refine tkx 7 (.string x) hHeld ?_; simp only [ly, Act.put]
    refine tkx 8 (.string (x.extract 0 2)) hHeld ?_ (hy := .inl ⟨by kernel_rfl, fun w _ => by go_simp; intro h; omega⟩); simp only [ly, Act.put]
    refine tkx 9 (.string mark) hHeld ?_; simp only [ly, Act.put]
    refine tkx 10 (.int .i64 (n : Int)) hHeld ?_; simp only [ly, Act.put]
    refine wpAnyH_ready (rs := [11]) (by kernel_rfl) (by simp) (AllReadyH.cons rfl (fun K hK => ?_) AllReadyH.nil)
    have hK' := hid hK
    clear hK
    rw [if_pos (by kernel_rfl)]
    simp only [ly1, ly2, ly3]
    go_simp
    refine (hU8.out Wd).mono ?_
    rintro e W1 ⟨rfl, hb⟩
    have hB := hid (hb0.out.trans (hb.mono hb0.out.size))
    refine hK'.out _ _ (by exact trivial) (fun hHeld => ?_)
    clear hK' K hb
    refine tkx 12 (.string (mark ++ bn)) hHeld ?_; simp only [ly, Act.put]
    refine tkx 13 (.bool b) hHeld ?_; simp only [ly, Act.put]
    refine tkx 14 (.bool b) hHeld ?_; simp only [ly, Act.put]
    refine tkx 15 (.bool b) hHeld ?_; simp only [ly, Act.put]
    refine wpAnyH_done (by kernel_rfl) ?_ _
    go_wp2_with fail
    go_ret
    exact ⟨by rw [hres.out]; rfl, hB.out⟩
  · have hd : ((x.size : Int) == 2 + (n : Int) * 32) = false := by rw [beq_eq_false_iff_ne]; omega
    have hres := hid (show isNodeT x mark n = false from by unfold isNodeT; rw [decide_eq_false hz]; rfl)
    clear hz hbn
    go_enter Try.func52, Try.ntmps52
    go_wp2_with fail
    refine wp_region_held_drew (S := fun _ => True) (by kernel_rfl) (by exact trivial) (fun hHeld => ?_)
    obtain ⟨Wd, hWd⟩ : ∃ V, w.drew = V := ⟨_, rfl⟩
    have hb0 := hid (show Below w.heap.size w Wd from by rw [← hWd]; exact (Below.refl _ _).drew)
    rw [hWd]
    refine tkx 0 (.string x) hHeld ?_; simp only [ly, Act.put]
    refine tkx 1 (.int .i64 (x.size : Int)) hHeld ?_; simp only [ly, Act.put]
    refine tkx 2 (.int .i64 (n : Int)) hHeld ?_; simp only [ly, Act.put]
    refine tkx 3 (.int .i64 ((n : Int) * 32)) hHeld ?_; simp only [ly, Act.put]
    refine tkx 4 (.int .i64 (2 + (n : Int) * 32)) hHeld ?_; simp only [ly, Act.put]
    refine tkx 5 (.bool false) hHeld ?_; simp only [ly, Act.put]
    refine tkx 6 (.bool false) hHeld ?_; simp only [ly, Act.put]
    refine tkx 7 (undef) hHeld ?_; simp only [ly, Act.put]
    refine tkx 8 (undef) hHeld ?_; simp only [ly, Act.put]
    refine tkx 9 (undef) hHeld ?_; simp only [ly, Act.put]
    refine tkx 10 (undef) hHeld ?_; simp only [ly, Act.put]
    refine tkx 11 (undef) hHeld ?_; simp only [ly, Act.put]
    refine tkx 12 (undef) hHeld ?_; simp only [ly, Act.put]
    refine tkx 13 (undef) hHeld ?_; simp only [ly, Act.put]
    refine tkx 14 (.bool false) hHeld ?_; simp only [ly, Act.put]
    refine tkx 15 (.bool false) hHeld ?_; simp only [ly, Act.put]
    refine wpAnyH_done (by kernel_rfl) ?_ _
    go_wp2_with fail
    go_ret
    exact ⟨by rw [hres.out]; rfl, hb0.out⟩

end Go.Proofs.Ytpjfhbmegabafaa
