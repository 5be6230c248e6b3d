/- The document's own answers: its Reader's Left and Hash, for seats that lack the rest of layer 3's reference (never together with RefR). -/
import Derived.Test.YtapegklffglnoaaRefBe
import Derived.Test.YtapegklffglnoaaWireH2
import Derived.Stop.BytesEq
import Derived.IntWalk
import Derived.Deep.RegionHeld3
namespace Go.Proofs.Ytapegklffglnoaa
open Go.RowKit
open Go.Lib (strCells strCells_length strCells_oneCell)

theorem extract_twice (S : ByteArray) (p n : Nat) (h : p + n ≤ S.size) : (S.extract p S.size).extract 0 n = S.extract p (p + n) := by
  apply bytes_ext
  simp only [ByteArray.data_extract, Array.toList_extract, List.extract, List.drop_zero, Nat.sub_zero]
  rw [List.take_take]
  congr 1
  omega

theorem extract_after (S : ByteArray) (p n : Nat) (h : p + n ≤ S.size) : (S.extract p S.size).extract n (S.extract p S.size).size = S.extract (p + n) S.size := by
  apply bytes_ext
  rw [extract_size]
  simp only [ByteArray.data_extract, Array.toList_extract, List.extract]
  rw [List.drop_take, List.drop_drop, List.take_take]
  congr 1
  omega

theorem extract_get (S l : ByteArray) (p : Nat) (hl : S.extract p S.size = l) (j : Nat) (h : j < l.size) (h' : p + j < S.size) : l[j]'h = S[p + j]'h' := by
  subst hl
  show (S.extract p S.size).data[j]'h = S.data[p + j]'h'
  simp [ByteArray.data_extract]

/-- The reference's Reader (block g): its text, and where it stands. -/
def RR (w : World) (g : Nat) (S : ByteArray) (p : Nat) : Prop := Holds w g 102 [.string S, .int .i64 (p : Int)]

theorem fits_zero (size : Int) : fitsB 0 size = isSizeB size := by
  cases h : isSizeB size with
  | false => simp [fitsB, h]
  | true =>
    rcases isSizeB_cases h with rfl | rfl | rfl <;> rfl

set_option maxRecDepth 100000 in
theorem refLeft_any (g : Nat) (S : ByteArray) (p : Nat) (hp : p ≤ S.size) (hS : S.size ≤ 140737488351232) (w : World) (h : RR w g S p) (z : Int) (hz : z = (S.size : Int) - p) :
    Calls Try.prog 69 #[.pointer (some ⟨g, 0, none⟩)] w fun e w' => e = .returned (.int .i64 z) ∧ ∃ m, w' = w.drewN m := by
  have c0 : w.cell? ⟨g, 0, none⟩ = some (.string S) := Holds.cell h 0
  have c1 : w.cell? ⟨g, 1, none⟩ = some (.int .i64 (p : Int)) := Holds.cell h 1
  have hw : IntKind.i64.wrap ((S.size : Int) - p) = (S.size : Int) - p := IntWalk.i64_in _ (by omega)
  have hz' := hid hz
  clear hz
  go_enter Try.func69, Try.ntmps69
  go_wp2
  go_quiet (fail)
  go_wp2
  go_ret
  exact ⟨by rw [hz'.out]; rfl, _, rfl⟩

theorem z32_is : z32 = (strCells noHash).toArray := by rw [← z32_hash.cells]

theorem readHash_cases {l h l' : ByteArray} {k : Int} (hk : readHash l = (h, k, l')) : (l.size < 32 ∧ h = noHash ∧ k = 300 ∧ l' = l) ∨ (32 ≤ l.size ∧ l.extract 0 32 = h ∧ k = 0 ∧ l.extract 32 l.size = l' ∧ h.size = 32) := by
  unfold readHash at hk
  split at hk
  · left
    obtain ⟨h1, h2⟩ := Prod.mk.inj hk
    obtain ⟨h2, h3⟩ := Prod.mk.inj h2
    exact ⟨by assumption, h1.symm, h2.symm, h3.symm⟩
  · right
    obtain ⟨h1, h2⟩ := Prod.mk.inj hk
    obtain ⟨h2, h3⟩ := Prod.mk.inj h2
    exact ⟨by omega, h1, h2.symm, h3, by rw [← h1, extract_size]; omega⟩

theorem readHash_size {l h l' : ByteArray} {k : Int} (hk : readHash l = (h, k, l')) : h.size = 32 := by
  rcases readHash_cases hk with ⟨_, rfl, _⟩ | ⟨_, _, _, _, h⟩
  · exact z32_hash.size
  · exact h

theorem RHash_any (g : Nat) (l : ByteArray) (w : World) (h : Rd w g l) (x : ByteArray) (k : Int) (l' : ByteArray) (hk : readHash l = (x, k, l')) :
    Calls Try.prog 114 #[.pointer (some ⟨g, 0, none⟩)] w fun e w' => e = .returned (.tuple #[.agg (strCells x).toArray, .int .i64 k]) ∧ Rd w' g l' ∧ w.grownBy w' (some g) := by
  rcases readHash_cases hk with ⟨h1, rfl, rfl, rfl⟩ | ⟨h1, h2, rfl, h3, h4⟩
  · have := RHash_cut g l' h1 w h
    rwa [z32_is] at this
  · exact RHash_ok g l h1 w h x l' h2 h3 _ ⟨rfl, h4⟩

theorem refRhash_results (tmps : Array Value) (w : World) (b : Nat) (cs : Array Value) (k : Int) (hp : tmps.getD 2 undef = .pointer (some ⟨b, 0, none⟩)) (hk : tmps.getD 3 undef = .int .i64 k)
    (hg : w.heap[b]? = some (.cells cs 76 (0, 0))) (hl : cs.size = 32) : (results Try.f86 tmps).run Try.prog w = .ok (.tuple #[.agg cs, .int .i64 k]) w := by
  have hp' : tmps[2]?.getD undef = .pointer (some ⟨b, 0, none⟩) := by simpa using hp
  have hk' : tmps[3]?.getD undef = .int .i64 k := by simpa using hk
  have hlv := run_loadVar_row (P := Try.prog) w b 76 76 cs (0, 0) _ hg Try.underlying76 rfl (by rw [Try.infoHash, hl])
  simp [results, Try.results86, hp', hk', asAddr, hlv]

set_option maxRecDepth 100000 in
set_option maxHeartbeats 1000000 in
theorem refRHash_any (g : Nat) (S : ByteArray) (p : Nat) (hp : p ≤ S.size) (hS : S.size ≤ 140737488351232) (w : World) (h : RR w g S p) (l : ByteArray) (hl : S.extract p S.size = l) (x : ByteArray) (k : Int) (l' : ByteArray) (hk : readHash l = (x, k, l')) :
    Calls Try.prog 86 #[.pointer (some ⟨g, 0, none⟩)] w fun e w' =>
      e = .returned (.tuple #[.agg (strCells x).toArray, .int .i64 k]) ∧ ∃ p', RR w' g S p' ∧ p' ≤ S.size ∧ S.extract p' S.size = l' ∧ w.grownBy w' (some g) := by
  obtain ⟨ih, hhi, hhz, hhs, hhb⟩ := info_parts Try.infoHashI
  obtain ⟨W, hW⟩ : ∃ W, W = (w.alloc (.cells z32 76)).alloc (.cells z32 76) := ⟨_, rfl⟩
  have h2 : RR W g S p := by rw [hW]; exact Holds.alloc (Holds.alloc h _) _
  have hb2 : Below w.heap.size w W := by rw [hW]; exact ((Below.refl _ _).alloc (Nat.le_refl _) _).alloc (by simp) _
  have hr0 : W.heap[w.heap.size]? = some (.cells z32 76 (0, 0)) := by rw [hW]; exact heap_up _ _ _ _ (heap_at _ _ _ rfl)
  have hr1 : W.heap[w.heap.size + 1]? = some (.cells z32 76 (0, 0)) := by rw [hW]; exact heap_at _ _ _ (by simp)
  have hls : l.size = S.size - p := by rw [← hl, extract_size]; omega
  have c2 := hid (refLeft_any g S p hp hS W h2 (l.size : Int) (by omega))
  have h2' := hid h2
  have hb2' := hid hb2
  have hW' := hid hW
  have hr0' := hid hr0
  have hr1' := hid hr1
  have hlt := Holds.lt h
  have hl' := hid hl
  rcases readHash_cases hk with ⟨h1, rfl, rfl, rfl⟩ | ⟨h1, h3, rfl, h4, h5⟩
  · have q1 : decide ((l'.size : Int) < 32) = true := by simp; omega
    clear h2 hb2 hW hr0 hr1 hl hls hk h1
    go_enter Try.func86, Try.ntmps86
    go_wp2_with (first
      | ((with_reducible refine at_slot (some 2) ?_); refine wpList_alloc_row rfl 76 rfl ih _ hhi hhz z32 rfl ?_)
      | ((with_reducible refine at_slot (some 4) ?_); refine wpList_alloc_row rfl 76 rfl ih _ hhi hhz z32 rfl ?_; rw [← hW'.out]))
    refine c2.out.mono ?_
    rintro e w' ⟨rfl, m, rfl⟩
    go_wp2_with (first
      | ((with_reducible refine at_slot (some 8) ?_); refine wpList_load_row rfl 76 (.tmp 4) rfl (w.heap.size + 1) rfl 76 z32 (0, 0) _ hr1'.out Try.underlying76 rfl (by rw [Try.infoHash]; rfl) ?_)
      | ((with_reducible refine at_slot none ?_); refine wpList_store_row rfl 76 (.tmp 2) (.tmp 8) rfl w.heap.size z32 rfl rfl 76 z32 hr0'.out (by rw [Try.infoHash]; rfl) rfl z32_hash.one ?_))
    have hs0 := setRow_heap (W.drewN m) w.heap.size z32 z32 76 (0, 0) hr0'.out
    have hs1 : RR ((W.drewN m).setRow w.heap.size z32) g S p := (setRow_other (W.drewN m) _ _ _ (by omega)).trans h2'.out
    have hs2 : w.grownBy ((W.drewN m).setRow w.heap.size z32) (some g) := ⟨hb2'.out.os, hb2'.out.tape, hb2'.out.output, by have := hb2'.out.size; simpa using this, fun k hk _ => (setRow_other (W.drewN m) _ _ _ (by omega)).trans (hb2'.out.block k hk)⟩
    refine bodyPost_ret (v := .tuple #[.agg z32, .int .i64 300]) (refRhash_results _ _ w.heap.size z32 300 rfl rfl hs0 rfl) rfl ⟨by rw [z32_is], p, hs1, hp, hl'.out, hs2⟩
  · have q1 : decide ((l.size : Int) < 32) = false := by simp; omega
    have hpm : p + 32 ≤ S.size := by omega
    have hcut : S.extract p (p + 32) = x := by rw [← h3, ← hl, extract_twice S p 32 hpm]
    have haft := hid (by rw [← h4, ← hl, extract_after S p 32 hpm] : S.extract (p + 32) S.size = l')
    have a0 : W.cell? ⟨g, 0, none⟩ = some (.string S) := Holds.cell h2 0
    have a1 : W.cell? ⟨g, 1, none⟩ = some (.int .i64 (p : Int)) := Holds.cell h2 1
    have v1 : IntKind.i64.wrap ((p : Int) + 32) = (p : Int) + 32 := IntWalk.i64_in _ (by omega)
    have v2 : 0 ≤ (p : Int) + 32 := by omega
    have v3 : (p : Int) + 32 ≤ S.size := by omega
    have v4 : ((p : Int) + 32).toNat = p + 32 := by omega
    have v5 : (p : Int) ≤ (p : Int) + 32 := by omega
    have hH : HashOf (strCells x).toArray x := ⟨rfl, h5⟩
    have hH' := hid hH
    have h5' := hid h5
    have hpm' := hid hpm
    have hWs : w.heap.size + 1 < W.heap.size := by rw [hW]; simp
    clear h2 hb2 hW hr0 hr1 hl hls hk h1 h3 h4 hH h5 hpm
    go_enter Try.func86, Try.ntmps86
    go_wp2_with (first
      | ((with_reducible refine at_slot (some 2) ?_); refine wpList_alloc_row rfl 76 rfl ih _ hhi hhz z32 rfl ?_)
      | ((with_reducible refine at_slot (some 4) ?_); refine wpList_alloc_row rfl 76 rfl ih _ hhi hhz z32 rfl ?_; rw [← hW'.out]))
    refine c2.out.mono ?_
    rintro e w' ⟨rfl, m, rfl⟩
    go_wp2
    have hcp := fun q => copy_whole (P := Try.prog) (W.drewN q) 62 9 3 5 (w.heap.size + 1) x (strCells x).toArray 76 h5'.out Try.underlying62 (by kernel_rfl) hr1'.out hH'.out
    have hcp' := fun q => copy_whole (P := Try.prog) (W.drewN q).drew 62 9 3 5 (w.heap.size + 1) x (strCells x).toArray 76 h5'.out Try.underlying62 (by kernel_rfl) hr1'.out hH'.out
    go_region_held3 (fun w' => w'.cell? ⟨g, 0, none⟩ = some (.string S) ∧ w'.cell? ⟨g, 1, none⟩ = some (.int .i64 (p : Int))) (first | exact ⟨a0, a1⟩ | exact ⟨(cell_setRow_other _ _ _ _ (by show g ≠ _; omega)).trans a0, (cell_setRow_other _ _ _ _ (by show g ≠ _; omega)).trans a1⟩) (fail)
    have r1 : ((W.drewN (m + 1)).setRow (w.heap.size + 1) (strCells x).toArray).heap[w.heap.size + 1]? = some (.cells (strCells x).toArray 76 (0, 0)) := setRow_heap (W.drewN (m + 1)) _ z32 _ _ _ hr1'.out
    have r0 : ((W.drewN (m + 1)).setRow (w.heap.size + 1) (strCells x).toArray).heap[w.heap.size]? = some (.cells z32 76 (0, 0)) := (setRow_other (W.drewN (m + 1)) _ _ _ (by omega)).trans hr0'.out
    have r2 : RR ((W.drewN (m + 1)).setRow (w.heap.size + 1) (strCells x).toArray) g S p := (setRow_other (W.drewN (m + 1)) _ _ _ (by omega)).trans h2'.out
    have r3 : w.grownBy ((W.drewN (m + 1)).setRow (w.heap.size + 1) (strCells x).toArray) (some g) := ⟨hb2'.out.os, hb2'.out.tape, hb2'.out.output, by have := hb2'.out.size; simpa using this, fun k hk _ => (setRow_other (W.drewN (m + 1)) _ _ _ (by omega)).trans (hb2'.out.block k hk)⟩
    clear hcp hcp'
    have r0' := hid r0
    have r1' := hid r1
    have r2' := hid r2
    have r3' := hid r3
    clear r0 r1 r2 r3
    generalize (W.drewN (m + 1)).setRow (w.heap.size + 1) (strCells x).toArray = w4 at *
    have b1 : w4.cell? ⟨g, 1, none⟩ = some (.int .i64 (p : Int)) := Holds.cell r2'.out 1
    have bf : w4.frozen? ⟨g, 1, none⟩ = false := Holds.frozen r2'.out 1
    obtain ⟨w5, hw5⟩ : ∃ w5, w4.setCell ⟨g, 1, none⟩ (.int .i64 ((p : Int) + 32)) = w5 := ⟨_, rfl⟩
    have s1 := hid (by rw [← hw5]; exact (heap_setCell_other w4 _ _ _ (by show _ ≠ g; omega)).trans r1'.out : w5.heap[w.heap.size + 1]? = some (.cells (strCells x).toArray 76 (0, 0)))
    have s0 := hid (by rw [← hw5]; exact (heap_setCell_other w4 _ _ _ (by show _ ≠ g; omega)).trans r0'.out : w5.heap[w.heap.size]? = some (.cells z32 76 (0, 0)))
    have s2 : RR w5 g S (p + 32) := by
      rw [← hw5]
      show Holds _ g _ [.string S, .int .i64 ((p + 32 : Nat) : Int)]
      rw [Int.natCast_add]
      exact Holds.set r2'.out 1 _
    have s3 : w.grownBy w5 (some g) := by rw [← hw5]; exact only_setCell r3'.out 1 _
    have s2' := hid s2
    have s3' := hid s3
    have hl32 : (strCells x).toArray.size = 32 := hH'.out.len
    have hl32' := hid hl32
    clear s2 s3 hl32
    go_wp2_with (first
      | ((with_reducible refine at_slot (some 33) ?_); refine wpList_load_row rfl 76 (.tmp 4) rfl (w.heap.size + 1) rfl 76 (strCells x).toArray (0, 0) _ s1.out Try.underlying76 rfl (by rw [Try.infoHash, hl32'.out]) ?_)
      | ((with_reducible refine at_slot none ?_); refine wpList_store_row rfl 76 (.tmp 2) (.tmp 33) rfl w.heap.size (strCells x).toArray rfl rfl 76 z32 s0.out (by rw [Try.infoHash, hl32'.out]) (by rw [hl32'.out]; rfl) hH'.out.one ?_))
    have hs0 := setRow_heap w5 w.heap.size z32 (strCells x).toArray 76 (0, 0) s0.out
    have hs1 : RR (w5.setRow w.heap.size (strCells x).toArray) g S (p + 32) := (setRow_other w5 _ _ _ (by omega)).trans s2'.out
    have hs2 : w.grownBy (w5.setRow w.heap.size (strCells x).toArray) (some g) := ⟨s3'.out.os, s3'.out.tape, s3'.out.output, by have := s3'.out.size; simpa using this, fun k hk hne => (setRow_other w5 _ _ _ (by omega)).trans (s3'.out.block k hk hne)⟩
    refine bodyPost_ret (v := .tuple #[.agg (strCells x).toArray, .int .i64 0]) (refRhash_results _ _ w.heap.size (strCells x).toArray 0 rfl rfl hs0 hl32'.out) rfl ⟨rfl, p + 32, hs1, hpm'.out, haft.out, hs2⟩

end Go.Proofs.Ytapegklffglnoaa
