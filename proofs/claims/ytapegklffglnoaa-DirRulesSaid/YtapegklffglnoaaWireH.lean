/- Layer 3: hashes written and read: their walks. -/
import Derived.Test.YtapegklffglnoaaWireR
import Derived.Test.YtapegklffglnoaaTools
import Derived.Deep.WholeRow
import Derived.Laws.Tables
namespace Go.Proofs.Ytapegklffglnoaa
open Go.RowKit
open Go.Lib (strCells strCells_length strCells_oneCell)

/-- The cells of a hash: thirty-two bytes. -/
structure HashOf (H : Array Value) (h : ByteArray) : Prop where
  cells : H.toList = strCells h
  size : h.size = 32

theorem HashOf.len {H : Array Value} {h : ByteArray} (x : HashOf H h) : H.size = 32 := by
  rw [← Array.length_toList, x.cells, strCells_length, x.size]

theorem HashOf.one {H : Array Value} {h : ByteArray} (x : HashOf H h) : H.all (·.oneCell') = true := by
  have : H = (strCells h).toArray := by rw [← x.cells]
  rw [this]
  exact all_oneCell_toArray (strCells_oneCell h)

theorem Try.infoHash : (Try.prog.info? 76).map (·.size) = some 32 := by kernel_rfl

set_option maxRecDepth 100000 in
set_option maxHeartbeats 400000 in
theorem hashTell_any (H : Array Value) (h : ByteArray) (x : HashOf H h) (w : World) :
    Calls Try.prog 131 #[.agg H] w fun e w' => e = .returned (.string h) ∧ Below w.heap.size w w' := by
  have hc := run_convert_block (P := Try.prog) (w := w.alloc (.cells H 76)) (e := 5) (s := h) (n := 32) (c := 32) 62 9 Try.underlying62 Try.underlying5 Try.underlying9 x.size.symm (heap_alloc_new w _) x.cells
  go_enter Try.func131, Try.ntmps131
  go_wp2
  go_ret
  exact ⟨rfl, (Below.refl _ _).alloc (Nat.le_refl _) _⟩

def z32 : Array Value := Array.replicate 32 (.int .u8 0)

set_option maxRecDepth 100000 in
set_option maxHeartbeats 1000000 in
/-- One hash is written. -/
theorem listHash_one (H : Array Value) (h : ByteArray) (hh : HashOf H h) (g q : Nat) (s : ByteArray) (r : Option Nat) (w : World) (hw : Wr w 154 5 g s r) (hsz : s.size ≤ 65536)
    (hq : w.heap[q]? = some (.cells H 76 (0, 0))) (s' : ByteArray) (k : Int) (hk : addPiece s (some h) = (s', k)) :
    Calls Try.prog 130 #[.pointer (some ⟨g, 0, none⟩), .slice (some ⟨q, 0, none⟩) 1 1, .func (.func 131) #[] #[]] w fun e w' =>
      ∃ r', e = .returned (.int .i64 k) ∧ Wr w' 154 5 g s' r' ∧ Fresh w r r' ∧ Turns w w' g r := by
  have c1 := hid (hashTell_any H h hh)
  have hhs := hid hh
  have hp1 : h.size ≤ 32 ∧ 1 ≤ h.size := by have := hh.size; omega
  clear hh
  obtain ⟨hp1, hp2⟩ := hp1
  obtain ⟨i0, hi, hz0, hz1, hz2⟩ := info_parts Try.infoU8
  obtain ⟨A, c, hH, hR, rfl, hrg⟩ := hw
  have hcell := hH.cell 0
  have hfr := hH.frozen 0
  have hq' := hid hq
  clear hq
  simp at hcell
  by_cases hfit : s.size + h.size ≤ 65536
  · rw [addPiece_fits hfit] at hk
    obtain ⟨hs', rfl⟩ := Prod.mk.inj hk
    have hsp := hid hs'
    clear hk hs'
    go_enter Try.func130, Try.ntmps130
    go_wp2_with fail
    refine wp_loop_rounds 2 ?_
    rw [rounds_succ]
    go_wp2_with (first
      | ((with_reducible refine at_slot (some 21) ?_); refine wpList_load_row rfl 76 (.tmp 20) rfl q rfl 76 H (0, 0) _ hq'.out Try.underlying76 rfl (by rw [Try.infoHash, hhs.out.len]) ?_)
      | ((with_reducible refine at_slot (some 9) ?_); refine wpList_run rfl (.pointer (some ⟨w.heap.size, 0, none⟩)) (w.alloc (.cells z32 76)) (by kernel_rfl) ?_)
      | ((with_reducible refine at_slot none ?_); refine wpList_store_row rfl 76 (.tmp 9) (.tmp 21) rfl w.heap.size H rfl rfl 76 z32 (heap_alloc_new _ _) (by rw [Try.infoHash, hhs.out.len]) (by rw [hhs.out.len]; rfl) hhs.out.one ?_; rw [World.setRow_alloc_new])
      | ((with_reducible refine at_slot (some 23) ?_); refine wpList_load_row rfl 76 (.tmp 9) rfl w.heap.size rfl 76 H (0, 0) _ (heap_alloc_new _ _) Try.underlying76 rfl (by rw [Try.infoHash, hhs.out.len]) ?_))
    refine (c1.out _).mono ?_
    rintro e w1 ⟨rfl, hb1'⟩
    have hb1 : Below w.heap.size w w1 := ((Below.refl _ _).alloc (Nat.le_refl _) _).trans (hb1'.mono (by simp))
    have hH1 := hH.below hb1 hH.lt
    have hcell1 := hH1.cell 0
    have hfr1 := hH1.frozen 0
    simp at hcell1
    have hR1 := hR.keep hb1
    clear hb1'
    go_wp2_with (at_builtin; (refine wpList_append_row rfl (.tmp 47) (.tmp 48) 62 9 rfl 5 i0 Try.underlying62 Try.underlying9 hi hz0 hz1 hz2 s h A c rfl rfl hR1 (by omega) s' hsp.out ?_); intro A2 c2 w2 hR2 hg2 hf2; have hH2 := hH1.grown hg2 hrg.symm; have hcell2 := hH2.cell 0; have hfr2 := hH2.frozen 0; simp at hcell2)
    rw [rounds_succ]
    go_wp2
    go_ret
    obtain ⟨a1, a2, a3⟩ := Wr.push hb1 hH1 hH.lt hrg hR2 hg2 hf2
    exact ⟨_, rfl, a1, a2, a3⟩
  · rw [addPiece_long hfit] at hk
    obtain ⟨rfl, rfl⟩ := Prod.mk.inj hk
    clear hk
    obtain ⟨q', rfl, hle⟩ := row_some hR (by omega)
    go_enter Try.func130, Try.ntmps130
    go_wp2_with fail
    refine wp_loop_rounds 2 ?_
    rw [rounds_succ]
    go_wp2_with (first
      | ((with_reducible refine at_slot (some 21) ?_); refine wpList_load_row rfl 76 (.tmp 20) rfl q rfl 76 H (0, 0) _ hq'.out Try.underlying76 rfl (by rw [Try.infoHash, hhs.out.len]) ?_)
      | ((with_reducible refine at_slot (some 9) ?_); refine wpList_run rfl (.pointer (some ⟨w.heap.size, 0, none⟩)) (w.alloc (.cells z32 76)) (by kernel_rfl) ?_)
      | ((with_reducible refine at_slot none ?_); refine wpList_store_row rfl 76 (.tmp 9) (.tmp 21) rfl w.heap.size H rfl rfl 76 z32 (heap_alloc_new _ _) (by rw [Try.infoHash, hhs.out.len]) (by rw [hhs.out.len]; rfl) hhs.out.one ?_; rw [World.setRow_alloc_new])
      | ((with_reducible refine at_slot (some 23) ?_); refine wpList_load_row rfl 76 (.tmp 9) rfl w.heap.size rfl 76 H (0, 0) _ (heap_alloc_new _ _) Try.underlying76 rfl (by rw [Try.infoHash, hhs.out.len]) ?_))
    refine (c1.out _).mono ?_
    rintro e w1 ⟨rfl, hb1'⟩
    have hb1 : Below w.heap.size w w1 := ((Below.refl _ _).alloc (Nat.le_refl _) _).trans (hb1'.mono (by simp))
    have hH1 := hH.below hb1 hH.lt
    have hcell1 := hH1.cell 0
    have hfr1 := hH1.frozen 0
    simp at hcell1
    clear hb1'
    go_wp2
    go_ret
    exact ⟨_, rfl, ⟨_, _, hH1.set 0 _, (hR.keep hb1).set hrg 0 _, rfl, hrg⟩, .inl rfl, (Turns.of_below hb1 g _).setCell 0 _⟩

theorem Try.infoHashI : (Try.prog.info? 76).map (fun i => (i.zero, i.size, i.bytes)) = some (some (.agg z32), 32, 32) := by kernel_rfl

set_option maxRecDepth 100000 in
set_option maxHeartbeats 400000 in
theorem WHash_any (H : Array Value) (h : ByteArray) (hh : HashOf H h) (g : Nat) (s : ByteArray) (r : Option Nat) (w : World) (hw : Wr w 154 5 g s r) (hsz : s.size ≤ 65536) (s' : ByteArray) (k : Int) (hk : addPiece s (some h) = (s', k)) :
    Calls Try.prog 112 #[.pointer (some ⟨g, 0, none⟩), .agg H] w fun e w' =>
      ∃ r', e = .returned (.int .i64 k) ∧ Wr w' 154 5 g s' r' ∧ Fresh w r r' ∧ Turns w w' g r := by
  have c1 := hid (fun q W r' hW hq => listHash_one H h hh g q s r' W hW hsz hq s' k hk)
  have hl := hid hh.len
  obtain ⟨ih, hhi, hhz, hhs, hhb⟩ := info_parts Try.infoHashI
  have hlt := hw.lt
  clear hk hh
  go_enter Try.func112, Try.ntmps112
  go_wp2_with (first
    | ((with_reducible refine at_slot (some 8) ?_); refine wpList_load_row rfl 76 (.tmp 3) rfl w.heap.size rfl 76 H (0, 0) _ (heap_alloc_new _ _) Try.underlying76 rfl (by rw [Try.infoHash, hl.out]) ?_)
    | ((with_reducible refine at_slot (some 9) ?_); refine wpList_buildSlice_one rfl 167 76 (.tmp 8) rfl ih (.agg z32) Try.underlying167 hhi hhz H rfl (by rw [hhs, hl.out]) (by rw [hl.out]; omega) (by rw [hl.out]; omega) ?_))
  refine (c1.out _ _ r ?_ ?_).mono ?_
  · exact (hw.alloc _).alloc _
  · exact heap_at _ _ _ (by simp)
  rintro e w' ⟨r', rfl, h1, h2, h3⟩
  go_wp2
  go_ret
  exact ⟨_, rfl, h1, h2.back (by simp; omega), ((Turns.refl _ _ _).alloc _).alloc _ |>.trans (.inl rfl) h3⟩

end Go.Proofs.Ytapegklffglnoaa
