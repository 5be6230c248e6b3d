/- Inodes: may one be? its number. -/
import Derived.Test.YtapegklffglnoaaIno
namespace Go.Proofs.Ytapegklffglnoaa
open Go.RowKit

set_option maxRecDepth 100000 in
set_option maxHeartbeats 2000000 in
theorem inodeMay_any (i : Ino) (w : World) :
    Calls Try.prog 87 #[.agg i.cells.toArray] w (MayPost i.may w) := by
  obtain ⟨h0, h1, h2, h3, h4⟩ := i.at_
  obtain ⟨num, kind, mode, links, size, root⟩ := i
  generalize (Ino.cells ⟨num, kind, mode, links, size, root⟩).toArray = C at h0 h1 h2 h3 h4 ⊢
  dsimp only at h0 h1 h2 h3 h4
  have hB : Below w.heap.size w (w.alloc (.cells C 78)) := (Below.refl _ _).alloc (Nat.le_refl _) _
  have hH := Holds.new w 78 C
  have c0 : (w.alloc (.cells C 78)).cell? ⟨w.heap.size, 0, none⟩ = some (.int .i64 num) := by rw [hH.cell]; simpa using h0
  have c1 : (w.alloc (.cells C 78)).cell? ⟨w.heap.size, 1, none⟩ = some (.int .i64 kind) := by rw [hH.cell]; simpa using h1
  have c2 : (w.alloc (.cells C 78)).cell? ⟨w.heap.size, 2, none⟩ = some (.int .i64 mode) := by rw [hH.cell]; simpa using h2
  have c3 : (w.alloc (.cells C 78)).cell? ⟨w.heap.size, 3, none⟩ = some (.int .i64 links) := by rw [hH.cell]; simpa using h3
  have c4 : (w.alloc (.cells C 78)).cell? ⟨w.heap.size, 4, none⟩ = some (.int .i64 size) := by rw [hH.cell]; simpa using h4
  have hB' := hid hB
  clear hB hH
  unfold Ino.may
  dsimp only
  obtain ⟨b, hb⟩ : ∃ b, mayB num kind mode links size = b := ⟨_, rfl⟩
  rw [hb]
  have hb' := hid hb
  clear hb
  go_enter Try.func87, Try.ntmps87
  go_wp2_with fail
  all_goals first
    | ((obtain rfl : b = false := by rw [← hb'.out]; exact decide_eq_false (by omega)); go_ret; exact ⟨rfl, hB'.out⟩)
    | ((obtain rfl : b = true := by rw [← hb'.out]; exact decide_eq_true (by omega)); go_ret; exact ⟨rfl, hB'.out⟩)
    | ((obtain rfl : b = (size == 0) := by rw [← hb'.out]; unfold mayB; rw [Bool.eq_iff_iff, decide_eq_true_iff, beq_iff_eq]; omega); go_ret; exact ⟨rfl, hB'.out⟩)

set_option maxRecDepth 100000 in
set_option maxHeartbeats 1000000 in
theorem numOf_any (i : Ino) (w : World) :
    Calls Try.prog 89 #[.agg i.cells.toArray] w fun e w' => e = .returned (.int .i64 i.num) ∧ Below w.heap.size w w' := by
  obtain ⟨h0, -⟩ := i.at_
  generalize i.cells.toArray = C at h0 ⊢
  have hH := Holds.new w 78 C
  have c0 : (w.alloc (.cells C 78)).cell? ⟨w.heap.size, 0, none⟩ = some (.int .i64 i.num) := by rw [hH.cell]; simpa using h0
  have hB := hid (show Below w.heap.size w (w.alloc (.cells C 78)) from (Below.refl _ _).alloc (Nat.le_refl _) _)
  clear hH
  go_enter Try.func89, Try.ntmps89
  go_wp2_with fail
  go_ret
  exact ⟨rfl, hB.out⟩

end Go.Proofs.Ytapegklffglnoaa
