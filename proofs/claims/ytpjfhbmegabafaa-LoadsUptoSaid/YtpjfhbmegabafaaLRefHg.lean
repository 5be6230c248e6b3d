/- The reference's Reader: a hash, where it is there. -/
import Derived.Test.YtpjfhbmegabafaaLBlkBase
import Derived.Test.YtpjfhbmegabafaaLNumU
import Derived.Test.YtpjfhbmegabafaaLShaFin
import Derived.Stop.BytesEq
import Derived.IntWalk
import Derived.Lib.BufferWrite
import Derived.Deep.RegionHeld3
namespace Go.Proofs.Ytpjfhbmegabafaa
open Go.RowKit
open Go.Lib (strCells strCells_length strCells_oneCell)

/-- The cells of a hash: thirty-two bytes. -/
structure HashOf (H : Array Value) (h : ByteArray) : Prop where
  cells : H.toList = strCells h
  size : h.size = 32

theorem HashOf.len {H : Array Value} {h : ByteArray} (x : HashOf H h) : H.size = 32 := by
  rw [← Array.length_toList, x.cells, strCells_length, x.size]

theorem HashOf.one {H : Array Value} {h : ByteArray} (x : HashOf H h) : H.all (·.oneCell') = true := by
  have : H = (strCells h).toArray := by rw [← x.cells]
  rw [this]
  exact all_oneCell_toArray (strCells_oneCell h)


theorem Try.infoHashI : (Try.prog.info? 33).map (fun i => (i.zero, i.size, i.bytes)) = some (some (.agg z32), 32, 32) := by kernel_rfl
theorem copy_whole {P : Program} (w : World) (dT sT ty elem : TypeId) (g : Nat) (s : ByteArray) (H : Array Value) (t : TypeId) (hs : s.size = 32)
    (hu : P.underlying dT = some (.slice elem)) (hsz : (P.info? elem).map (·.size) = some 1) (hg : w.heap[g]? = some (.cells z32 t (0, 0))) (hH : HashOf H s) :
    (Builtin.copy_ #[dT, sT] ty #[.slice (some ⟨g, 0, none⟩) 32 32, .string s]).run P w = .ok (goInt 32) (w.setRow g H) := by
  have h := Lib.run_copy_row_string (P := P) w dT sT ty elem g 0 32 32 s z32 t hu hsz hg (by omega) (by rw [hs]; decide)
  rw [hs] at h
  rw [h]
  congr 2
  have e : H = (strCells s).toArray := by rw [← hH.cells]
  rw [e, List.take_zero, List.nil_append, List.drop_of_length_le (by decide), List.append_nil]
  rfl

def RR (w : World) (g : Nat) (S : ByteArray) (p : Nat) : Prop := Holds w g 155 [.string S, .int .i64 (p : Int)]

set_option maxRecDepth 100000 in
theorem refLeft_any (g : Nat) (S : ByteArray) (p : Nat) (hp : p ≤ S.size) (hS : S.size ≤ 140737488351232) (w : World) (h : RR w g S p) (z : Int) (hz : z = (S.size : Int) - p) :
    Calls Try.prog 94 #[.pointer (some ⟨g, 0, none⟩)] w fun e w' => e = .returned (.int .i64 z) ∧ ∃ m, w' = w.drewN m := by
  have c0 : w.cell? ⟨g, 0, none⟩ = some (.string S) := Holds.cell h 0
  have c1 : w.cell? ⟨g, 1, none⟩ = some (.int .i64 (p : Int)) := Holds.cell h 1
  have hw : IntKind.i64.wrap ((S.size : Int) - p) = (S.size : Int) - p := IntWalk.i64_in _ (by omega)
  have hz' := hid hz
  clear hz
  go_enter Try.func94, Try.ntmps94
  go_wp2
  go_quiet (fail)
  go_wp2
  go_ret
  exact ⟨by rw [hz'.out]; rfl, _, rfl⟩

theorem refRhash_results (tmps : Array Value) (w : World) (b : Nat) (cs : Array Value) (k : Int) (hp : tmps.getD 2 undef = .pointer (some ⟨b, 0, none⟩)) (hk : tmps.getD 3 undef = .int .i64 k)
    (hg : w.heap[b]? = some (.cells cs 33 (0, 0))) (hl : cs.size = 32) : (results Try.f80 tmps).run Try.prog w = .ok (.tuple #[.agg cs, .int .i64 k]) w := by
  have hp' : tmps[2]?.getD undef = .pointer (some ⟨b, 0, none⟩) := by simpa using hp
  have hk' : tmps[3]?.getD undef = .int .i64 k := by simpa using hk
  have hlv := run_loadVar_row (P := Try.prog) w b 33 33 cs (0, 0) _ hg Try.underlying33 rfl (by rw [Try.infoHash, hl])
  simp [results, Try.results80, hp', hk', asAddr, hlv]

set_option maxRecDepth 100000 in
set_option maxHeartbeats 1000000 in
theorem refHash_good (g : Nat) (S : ByteArray) (p : Nat) (hpm : p + 32 ≤ S.size) (hS : S.size ≤ 140737488351232) (w : World) (h : RR w g S p) :
    Calls Try.prog 80 #[.pointer (some ⟨g, 0, none⟩)] w fun e w' =>
      e = .returned (.tuple #[.agg (byteCells ((S.data.toList.drop p).take 32)).toArray, .int .i64 0]) ∧ RR w' g S (p + 32) ∧ w.grownBy w' (some g) := by
  have hp : p ≤ S.size := by omega
  obtain ⟨l, hl⟩ : ∃ l, S.extract p S.size = l := ⟨_, rfl⟩
  obtain ⟨x, hcut⟩ : ∃ x, S.extract p (p + 32) = x := ⟨_, rfl⟩
  have h5 : x.size = 32 := by rw [← hcut, ByteArray.size_extract]; omega
  have hxc : (byteCells ((S.data.toList.drop p).take 32)).toArray = (strCells x).toArray := by
    rw [← hcut]
    unfold strCells byteCells
    rw [ByteArray.data_extract, Array.toList_extract, List.extract_eq_take_drop, show p + 32 - p = 32 from by omega]
  rw [hxc]
  obtain ⟨ih, hhi, hhz, hhs, hhb⟩ := info_parts Try.infoHashI
  obtain ⟨W, hW⟩ : ∃ W, W = (w.alloc (.cells z32 33)).alloc (.cells z32 33) := ⟨_, rfl⟩
  have h2 : RR W g S p := by rw [hW]; exact Holds.alloc (Holds.alloc h _) _
  have hb2 : Below w.heap.size w W := by rw [hW]; exact ((Below.refl _ _).alloc (Nat.le_refl _) _).alloc (by simp) _
  have hr0 : W.heap[w.heap.size]? = some (.cells z32 33 (0, 0)) := by rw [hW]; exact heap_up _ _ _ _ (heap_at _ _ _ rfl)
  have hr1 : W.heap[w.heap.size + 1]? = some (.cells z32 33 (0, 0)) := by rw [hW]; exact heap_at _ _ _ (by simp)
  have hls : l.size = S.size - p := by rw [← hl, ByteArray.size_extract]; omega
  have c2 := hid (refLeft_any g S p hp hS W h2 (l.size : Int) (by omega))
  have h2' := hid h2
  have hb2' := hid hb2
  have hW' := hid hW
  have hr0' := hid hr0
  have hr1' := hid hr1
  have hlt := Holds.lt h
  have hl' := hid hl
  have q1 : decide ((l.size : Int) < 32) = false := by simp; omega
  have a0 : W.cell? ⟨g, 0, none⟩ = some (.string S) := Holds.cell h2 0
  have a1 : W.cell? ⟨g, 1, none⟩ = some (.int .i64 (p : Int)) := Holds.cell h2 1
  have v1 : IntKind.i64.wrap ((p : Int) + 32) = (p : Int) + 32 := IntWalk.i64_in _ (by omega)
  have v2 : 0 ≤ (p : Int) + 32 := by omega
  have v3 : (p : Int) + 32 ≤ S.size := by omega
  have v4 : ((p : Int) + 32).toNat = p + 32 := by omega
  have v5 : (p : Int) ≤ (p : Int) + 32 := by omega
  have hH : HashOf (strCells x).toArray x := ⟨rfl, h5⟩
  have hH' := hid hH
  have h5' := hid h5
  have hpm' := hid hpm
  have hWs : w.heap.size + 1 < W.heap.size := by rw [hW]; simp
  clear h2 hb2 hW hr0 hr1 hl hls hH h5 hpm hxc
  go_enter Try.func80, Try.ntmps80
  go_wp2_with (first
    | ((with_reducible refine at_slot (some 2) ?_); refine wpList_alloc_row rfl 33 rfl ih _ hhi hhz z32 rfl ?_)
    | ((with_reducible refine at_slot (some 4) ?_); refine wpList_alloc_row rfl 33 rfl ih _ hhi hhz z32 rfl ?_; rw [← hW'.out]))
  refine c2.out.mono ?_
  rintro e w' ⟨rfl, m, rfl⟩
  go_wp2
  have hcp := fun q => copy_whole (P := Try.prog) (W.drewN q) 51 9 3 5 (w.heap.size + 1) x (strCells x).toArray 33 h5'.out Try.underlying51 (by kernel_rfl) hr1'.out hH'.out
  have hcp' := fun q => copy_whole (P := Try.prog) (W.drewN q).drew 51 9 3 5 (w.heap.size + 1) x (strCells x).toArray 33 h5'.out Try.underlying51 (by kernel_rfl) hr1'.out hH'.out
  go_region_held3 (fun w' => w'.cell? ⟨g, 0, none⟩ = some (.string S) ∧ w'.cell? ⟨g, 1, none⟩ = some (.int .i64 (p : Int))) (first | exact ⟨a0, a1⟩ | exact ⟨(cell_setRow_other _ _ _ _ (by show g ≠ _; omega)).trans a0, (cell_setRow_other _ _ _ _ (by show g ≠ _; omega)).trans a1⟩) (fail)
  have r1 : ((W.drewN (m + 1)).setRow (w.heap.size + 1) (strCells x).toArray).heap[w.heap.size + 1]? = some (.cells (strCells x).toArray 33 (0, 0)) := setRow_heap (W.drewN (m + 1)) _ z32 _ _ _ hr1'.out
  have r0 : ((W.drewN (m + 1)).setRow (w.heap.size + 1) (strCells x).toArray).heap[w.heap.size]? = some (.cells z32 33 (0, 0)) := (setRow_other (W.drewN (m + 1)) _ _ _ (by omega)).trans hr0'.out
  have r2 : RR ((W.drewN (m + 1)).setRow (w.heap.size + 1) (strCells x).toArray) g S p := (setRow_other (W.drewN (m + 1)) _ _ _ (by omega)).trans h2'.out
  have r3 : w.grownBy ((W.drewN (m + 1)).setRow (w.heap.size + 1) (strCells x).toArray) (some g) := ⟨hb2'.out.os, hb2'.out.tape, hb2'.out.output, by have := hb2'.out.size; simpa using this, fun k hk _ => (setRow_other (W.drewN (m + 1)) _ _ _ (by omega)).trans (hb2'.out.block k hk)⟩
  clear hcp hcp'
  have r0' := hid r0
  have r1' := hid r1
  have r2' := hid r2
  have r3' := hid r3
  clear r0 r1 r2 r3
  generalize (W.drewN (m + 1)).setRow (w.heap.size + 1) (strCells x).toArray = w4 at *
  have b1 : w4.cell? ⟨g, 1, none⟩ = some (.int .i64 (p : Int)) := Holds.cell r2'.out 1
  have bf : w4.frozen? ⟨g, 1, none⟩ = false := Holds.frozen r2'.out 1
  obtain ⟨w5, hw5⟩ : ∃ w5, w4.setCell ⟨g, 1, none⟩ (.int .i64 ((p : Int) + 32)) = w5 := ⟨_, rfl⟩
  have s1 := hid (by rw [← hw5]; exact (heap_setCell_other w4 _ _ _ (by show _ ≠ g; omega)).trans r1'.out : w5.heap[w.heap.size + 1]? = some (.cells (strCells x).toArray 33 (0, 0)))
  have s0 := hid (by rw [← hw5]; exact (heap_setCell_other w4 _ _ _ (by show _ ≠ g; omega)).trans r0'.out : w5.heap[w.heap.size]? = some (.cells z32 33 (0, 0)))
  have s2 : RR w5 g S (p + 32) := by
    rw [← hw5]
    show Holds _ g _ [.string S, .int .i64 ((p + 32 : Nat) : Int)]
    rw [Int.natCast_add]
    exact Holds.set r2'.out 1 _
  have s3 : w.grownBy w5 (some g) := by rw [← hw5]; exact only_setCell r3'.out 1 _
  have s2' := hid s2
  have s3' := hid s3
  have hl32 : (strCells x).toArray.size = 32 := hH'.out.len
  have hl32' := hid hl32
  clear s2 s3 hl32
  go_wp2_with (first
    | ((with_reducible refine at_slot (some 33) ?_); refine wpList_load_row rfl 33 (.tmp 4) rfl (w.heap.size + 1) rfl 33 (strCells x).toArray (0, 0) _ s1.out Try.underlying33 rfl (by rw [Try.infoHash, hl32'.out]) ?_)
    | ((with_reducible refine at_slot none ?_); refine wpList_store_row rfl 33 (.tmp 2) (.tmp 33) rfl w.heap.size (strCells x).toArray rfl rfl 33 z32 s0.out (by rw [Try.infoHash, hl32'.out]) (by rw [hl32'.out]; rfl) hH'.out.one ?_))
  have hs0 := setRow_heap w5 w.heap.size z32 (strCells x).toArray 33 (0, 0) s0.out
  have hs1 : RR (w5.setRow w.heap.size (strCells x).toArray) g S (p + 32) := (setRow_other w5 _ _ _ (by omega)).trans s2'.out
  have hs2 : w.grownBy (w5.setRow w.heap.size (strCells x).toArray) (some g) := ⟨s3'.out.os, s3'.out.tape, s3'.out.output, by have := s3'.out.size; simpa using this, fun k hk hne => (setRow_other w5 _ _ _ (by omega)).trans (s3'.out.block k hk hne)⟩
  refine bodyPost_ret (v := .tuple #[.agg (strCells x).toArray, .int .i64 0]) (refRhash_results _ _ w.heap.size (strCells x).toArray 0 rfl rfl hs0 hl32'.out) rfl ⟨rfl, hs1, hs2⟩

end Go.Proofs.Ytpjfhbmegabafaa
