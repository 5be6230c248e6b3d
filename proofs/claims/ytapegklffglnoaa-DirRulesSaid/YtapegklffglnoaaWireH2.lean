/- Layer 3: hashes read: the walk. -/
import Derived.Test.YtapegklffglnoaaWireH
import Derived.Deep.RegionWith
import Derived.Lib.BufferWrite
namespace Go.Proofs.Ytapegklffglnoaa
open Go.RowKit
open Go.Lib (strCells strCells_length strCells_oneCell)

theorem take_only (g : Nat) (s : ByteArray) (n : Nat) (hn : n ≤ s.size) (w : World) (h : Rd w g s) :
    Calls Try.prog 122 #[.pointer (some ⟨g, 0, none⟩), .int .i64 n] w fun e w' => e = .returned (.string (s.extract 0 n)) ∧ Rd w' g (s.extract n s.size) ∧ w.grownBy w' (some g) :=
  (take_any g s n hn w h).mono fun e w' ⟨he, hw⟩ => by
    subst hw
    exact ⟨he, Holds.set h 0 _, only_setCell (World.grownBy.refl _ _) 0 _⟩

theorem z32_hash : HashOf z32 noHash := ⟨by kernel_rfl, by decide +kernel⟩

theorem copy_whole {P : Program} (w : World) (dT sT ty elem : TypeId) (g : Nat) (s : ByteArray) (H : Array Value) (t : TypeId) (hs : s.size = 32)
    (hu : P.underlying dT = some (.slice elem)) (hsz : (P.info? elem).map (·.size) = some 1) (hg : w.heap[g]? = some (.cells z32 t (0, 0))) (hH : HashOf H s) :
    (Builtin.copy_ #[dT, sT] ty #[.slice (some ⟨g, 0, none⟩) 32 32, .string s]).run P w = .ok (goInt 32) (w.setRow g H) := by
  have h := Lib.run_copy_row_string (P := P) w dT sT ty elem g 0 32 32 s z32 t hu hsz hg (by omega) (by rw [hs]; decide)
  rw [hs] at h
  rw [h]
  congr 2
  have e : H = (strCells s).toArray := by rw [← hH.cells]
  rw [e, List.take_zero, List.nil_append, List.drop_of_length_le (by decide), List.append_nil]
  rfl

theorem rhash_results (tmps : Array Value) (w : World) (b : Nat) (cs : Array Value) (k : Int) (hp : tmps.getD 2 undef = .pointer (some ⟨b, 0, none⟩)) (hk : tmps.getD 3 undef = .int .i64 k)
    (hg : w.heap[b]? = some (.cells cs 76 (0, 0))) (hl : cs.size = 32) : (results Try.f114 tmps).run Try.prog w = .ok (.tuple #[.agg cs, .int .i64 k]) w := by
  have hp' : tmps[2]?.getD undef = .pointer (some ⟨b, 0, none⟩) := by simpa using hp
  have hk' : tmps[3]?.getD undef = .int .i64 k := by simpa using hk
  have hlv := run_loadVar_row (P := Try.prog) w b 76 76 cs (0, 0) _ hg Try.underlying76 rfl (by rw [Try.infoHash, hl])
  simp [results, Try.results114, hp', hk', asAddr, hlv]

set_option maxRecDepth 100000 in
set_option maxHeartbeats 1000000 in
theorem RHash_cut (g : Nat) (s : ByteArray) (hs : s.size < 32) (w : World) (h : Rd w g s) :
    Calls Try.prog 114 #[.pointer (some ⟨g, 0, none⟩)] w fun e w' => e = .returned (.tuple #[.agg z32, .int .i64 300]) ∧ Rd w' g s ∧ w.grownBy w' (some g) := by
  obtain ⟨ih, hhi, hhz, hhs, hhb⟩ := info_parts Try.infoHashI
  obtain ⟨W, hW⟩ : ∃ W, W = (w.alloc (.cells z32 76)).alloc (.cells z32 76) := ⟨_, rfl⟩
  have h2 : Rd W g s := by rw [hW]; exact Holds.alloc (Holds.alloc h _) _
  have hc : W.cell? ⟨g, 0, none⟩ = some (.string s) := Holds.cell h2 0
  have hb2 : Below w.heap.size w W := by rw [hW]; exact ((Below.refl _ _).alloc (Nat.le_refl _) _).alloc (by simp) _
  have hr0 : W.heap[w.heap.size]? = some (.cells z32 76 (0, 0)) := by rw [hW]; exact heap_up _ _ _ _ (heap_at _ _ _ rfl)
  have hr1 : W.heap[w.heap.size + 1]? = some (.cells z32 76 (0, 0)) := by rw [hW]; exact heap_at _ _ _ (by simp)
  have h2' := hid h2
  have hb2' := hid hb2
  have hW' := hid hW
  have hr0' := hid hr0
  have hr1' := hid hr1
  have hlt := Holds.lt h
  clear h2 hb2 hW hr0 hr1
  go_enter Try.func114, Try.ntmps114
  go_wp2_with (first
    | ((with_reducible refine at_slot (some 2) ?_); refine wpList_alloc_row rfl 76 rfl ih _ hhi hhz z32 rfl ?_)
    | ((with_reducible refine at_slot (some 4) ?_); refine wpList_alloc_row rfl 76 rfl ih _ hhi hhz z32 rfl ?_; rw [← hW'.out])
    | ((with_reducible refine at_slot (some 14) ?_); refine wpList_load_row rfl 76 (.tmp 4) rfl (w.heap.size + 1) rfl 76 z32 (0, 0) _ hr1'.out Try.underlying76 rfl (by rw [Try.infoHash]; rfl) ?_)
    | ((with_reducible refine at_slot none ?_); refine wpList_store_row rfl 76 (.tmp 2) (.tmp 14) rfl w.heap.size z32 rfl rfl 76 z32 hr0'.out (by rw [Try.infoHash]; rfl) rfl z32_hash.one ?_))
  have hs0 := setRow_heap W w.heap.size z32 z32 76 (0, 0) hr0'.out
  have hs1 : Rd (W.setRow w.heap.size z32) g s := (setRow_other W _ _ _ (by omega)).trans h2'.out
  have hs2 : w.grownBy (W.setRow w.heap.size z32) (some g) := ⟨hb2'.out.os, hb2'.out.tape, hb2'.out.output, by have := hb2'.out.size; simpa using this, fun k hk _ => (setRow_other W _ _ _ (by omega)).trans (hb2'.out.block k hk)⟩
  refine bodyPost_ret (v := .tuple #[.agg z32, .int .i64 300]) (rhash_results _ _ w.heap.size z32 300 rfl rfl hs0 rfl) rfl ⟨rfl, hs1, hs2⟩

set_option maxRecDepth 100000 in
set_option maxHeartbeats 1000000 in
theorem RHash_ok (g : Nat) (s : ByteArray) (hs : 32 ≤ s.size) (w : World) (h : Rd w g s) (x l : ByteArray) (hx : s.extract 0 32 = x) (hl : s.extract 32 s.size = l) (H : Array Value) (hH : HashOf H x) :
    Calls Try.prog 114 #[.pointer (some ⟨g, 0, none⟩)] w fun e w' => e = .returned (.tuple #[.agg H, .int .i64 0]) ∧ Rd w' g l ∧ w.grownBy w' (some g) := by
  obtain ⟨ih, hhi, hhz, hhs, hhb⟩ := info_parts Try.infoHashI
  have c1 := hid (fun W h => take_only g s 32 hs W h)
  rw [hx, hl] at c1
  clear hx hl
  obtain ⟨W, hW⟩ : ∃ W, W = (w.alloc (.cells z32 76)).alloc (.cells z32 76) := ⟨_, rfl⟩
  have h2 : Rd W g s := by rw [hW]; exact Holds.alloc (Holds.alloc h _) _
  have hc : W.cell? ⟨g, 0, none⟩ = some (.string s) := Holds.cell h2 0
  have hb2 : Below w.heap.size w W := by rw [hW]; exact ((Below.refl _ _).alloc (Nat.le_refl _) _).alloc (by simp) _
  have hr0 : W.heap[w.heap.size]? = some (.cells z32 76 (0, 0)) := by rw [hW]; exact heap_up _ _ _ _ (heap_at _ _ _ rfl)
  have hr1 : W.heap[w.heap.size + 1]? = some (.cells z32 76 (0, 0)) := by rw [hW]; exact heap_at _ _ _ (by simp)
  have h2' := hid h2
  have hb2' := hid hb2
  have hW' := hid hW
  have hr0' := hid hr0
  have hr1' := hid hr1
  have hlt := Holds.lt h
  have hWs : w.heap.size + 1 < W.heap.size := by rw [hW]; simp
  clear h2 hb2 hW hr0 hr1
  go_enter Try.func114, Try.ntmps114
  go_wp2_with (first
    | ((with_reducible refine at_slot (some 2) ?_); refine wpList_alloc_row rfl 76 rfl ih _ hhi hhz z32 rfl ?_)
    | ((with_reducible refine at_slot (some 4) ?_); refine wpList_alloc_row rfl 76 rfl ih _ hhi hhz z32 rfl ?_; rw [← hW'.out]))
  go_region_with (go_at_call 122; refine (c1.out _ ?_).mono ?_; exact h2'.out; rintro e w2 ⟨rfl, h3, hg3⟩; have hcp := copy_whole (P := Try.prog) w2 62 9 3 5 (w.heap.size + 1) x H 76 hH.size Try.underlying62 (by kernel_rfl) ((hg3.block _ hWs (by simp; omega)).trans hr1'.out) hH)
  have r1 : (w2.setRow (w.heap.size + 1) H).heap[w.heap.size + 1]? = some (.cells H 76 (0, 0)) := setRow_heap w2 _ z32 H _ _ ((hg3.block _ hWs (by simp; omega)).trans hr1'.out)
  have r0 : (w2.setRow (w.heap.size + 1) H).heap[w.heap.size]? = some (.cells z32 76 (0, 0)) := (setRow_other w2 _ _ _ (by omega)).trans ((hg3.block _ (by simp; omega) (by simp; omega)).trans hr0'.out)
  have r2 : Rd (w2.setRow (w.heap.size + 1) H) g l := (setRow_other w2 _ _ _ (by omega)).trans h3
  have r3 : w.grownBy (w2.setRow (w.heap.size + 1) H) (some g) := ⟨hg3.os.trans hb2'.out.os, hg3.tape.trans hb2'.out.tape, hg3.output.trans hb2'.out.output, by have := hb2'.out.size; have := hg3.size; simp at this ⊢; omega,
    fun k hk hne => (setRow_other w2 _ _ _ (by omega)).trans ((hg3.block k (Nat.lt_of_lt_of_le hk hb2'.out.size) hne).trans (hb2'.out.block k hk))⟩
  clear hcp h3 hg3
  have r0' := hid r0
  have r1' := hid r1
  have r2' := hid r2
  have r3' := hid r3
  clear r0 r1 r2 r3
  generalize w2.setRow (w.heap.size + 1) H = w4 at *
  go_wp2_with (first
    | ((with_reducible refine at_slot (some 19) ?_); refine wpList_load_row rfl 76 (.tmp 4) rfl (w.heap.size + 1) rfl 76 H (0, 0) _ r1'.out Try.underlying76 rfl (by rw [Try.infoHash, hH.len]) ?_)
    | ((with_reducible refine at_slot none ?_); refine wpList_store_row rfl 76 (.tmp 2) (.tmp 19) rfl w.heap.size H rfl rfl 76 z32 r0'.out (by rw [Try.infoHash, hH.len]) (by rw [hH.len]; rfl) hH.one ?_))
  have hs0 := setRow_heap w4 w.heap.size z32 H 76 (0, 0) r0'.out
  have hs1 : Rd (w4.setRow w.heap.size H) g l := (setRow_other w4 _ _ _ (by omega)).trans r2'.out
  have hs2 : w.grownBy (w4.setRow w.heap.size H) (some g) := ⟨r3'.out.os, r3'.out.tape, r3'.out.output, by have := r3'.out.size; simpa using this, fun k hk hne => (setRow_other w4 _ _ _ (by omega)).trans (r3'.out.block k hk hne)⟩
  refine bodyPost_ret (v := .tuple #[.agg H, .int .i64 0]) (rhash_results _ _ w.heap.size H 0 rfl rfl hs0 hH.len) rfl ⟨rfl, hs1, hs2⟩

end Go.Proofs.Ytapegklffglnoaa
