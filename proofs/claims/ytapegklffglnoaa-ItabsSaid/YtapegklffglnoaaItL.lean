/- Layer 14: tables that are lent with marked room behind them. -/
import Derived.Test.YtapegklffglnoaaItO
namespace Go.Proofs.Ytapegklffglnoaa
open Go.RowKit
open Go.Lib (strCells strCells_length strCells_oneCell)

/-- A row of two inodes. -/
theorem inos_pair {w : World} {q : Nat} {a b : Ino} (ha : a.fine) (hb : b.fine) (h : Holds w q 78 (a.cells ++ b.cells)) : Inos w (q + 1) (some ⟨q, 0, none⟩) 2 [a, b] := by
  have hf : ∀ x ∈ [a, b], x.fine := fun x hx => by
    rcases List.mem_cons.1 hx with rfl | hx
    · exact ha
    · rw [List.mem_singleton.1 hx]; exact hb
  refine ⟨rfl, hf, .inr ⟨_, rfl, Nat.lt_succ_self _, fun i hi j v hv => ?_⟩⟩
  have h1 := inoCells_at hf i hi j v hv
  rw [show inoCells [a, b] = a.cells ++ b.cells from by simp [inoCells]] at h1
  rw [add_add, show (⟨q, 0, none⟩ : Addr).add (i * 37 + j) = ⟨q, i * 37 + j, none⟩ from by unfold Addr.add; split <;> simp_all, h.cell]
  exact h1

/-- What lies in the room behind. -/
def roomIno : Ino := ⟨77777, 0, 0, 0, 0, noHash⟩
def roomInos : List Ino := [roomIno, roomIno]
theorem room_fine : roomIno.fine := by show roomIno.root.size = 32; decide +kernel
theorem rooms_fine : ∀ x ∈ roomInos, x.fine := fun x hx => by
  unfold roomInos at hx
  simp at hx
  rw [hx]
  exact room_fine

theorem inoCells_each (xs : List Ino) : ∀ u ∈ inoCells xs, u.oneCell' = true := fun u hu => by
  obtain ⟨x, _, hx⟩ := List.mem_flatMap.1 hu
  exact Array.all_eq_true_iff_forall_mem.1 x.one u (by simpa using hx)
theorem inoCells_append (xs ys : List Ino) : inoCells (xs ++ ys) = inoCells xs ++ inoCells ys := by simp [inoCells]

theorem Inos.at_cells {w : World} {B n : Nat} {A : Option Addr} {xs : List Ino} (h : Inos w B A n xs) : At w B 37 A n (inoCells xs) := by
  have hl := inoCells_length h.2.1
  refine ⟨by rw [hl, h.1], ?_⟩
  rcases h.2.2 with h0 | ⟨p, hA, hB, hc⟩
  · exact .inl h0
  · refine .inr ⟨p, hA, hB, fun j hj => ?_⟩
    have hk : j / 37 < xs.length := by omega
    have hr : j % 37 < (xs[j / 37]).cells.length := by rw [Ino.len (h.2.1 _ (List.getElem_mem hk))]; omega
    have h1 := inoCells_at h.2.1 (j / 37) hk (j % 37) _ (List.getElem?_eq_getElem hr)
    have e : j / 37 * 37 + j % 37 = j := by omega
    rw [e, List.getElem?_eq_getElem hj] at h1
    have h2 := hc (j / 37) hk (j % 37) _ (List.getElem?_eq_getElem hr)
    rw [add_add, e] at h2
    rw [h2, Option.some.inj h1]

set_option maxHeartbeats 400000 in
theorem CopyInos_any {w : World} (A : Option Addr) (n c : Nat) (xs : List Ino) (h : InosIn w A n c xs) :
    Calls Try.prog 78 #[.slice A n c] w fun e w' => ∃ A' c', e = .returned (.slice A' n c') ∧ w'.ownsRow w.heap.size 78 37 (.slice A' n c') n (inoCells xs) ∧ Below w.heap.size w w' := by
  obtain ⟨hx, hn, hc, hnil⟩ := h
  have hat := hx.at_cells
  obtain ⟨i0, hi, hz0, hz1, hz2⟩ := info_parts Try.infoInoI
  have hl : (w.alloc (.cells #[] 78)).ownsRow w.heap.size 78 37 (.slice (some ⟨w.heap.size, 0, none⟩) 0 0) 0 [] := ⟨rfl, .inr ⟨w.heap.size, 0, #[], rfl, Nat.le_refl _, Holds.new w _ _, Nat.le_refl _, Nat.zero_le _, rfl, rfl⟩⟩
  have hl' := hid hl
  clear hl
  go_enter Try.func78, Try.ntmps78
  go_wp2_with (at_builtin; refine wpList_appends rfl (.tmp 3) (.tmp 4) 64 78 rfl w.heap.size i0 _ 37 72 Try.underlying64 hi hz0 hz1 hz2 (by decide) (by decide) (some ⟨w.heap.size, 0, none⟩) 0 0 [] w.heap.size A n c (inoCells xs) rfl rfl hnil (inoCells_each _) (by omega) (by omega) (by exact hl'.out) (by exact At.alloc hat (Nat.le_refl _) _) (by first | (simp; done) | (simp; omega) | omega) ?_; intro A6 c6 w1 hown1 hb1 hg1)
  go_ret
  rw [Nat.zero_add, List.nil_append] at hown1
  exact ⟨_, _, rfl, hown1, ((Below.refl _ _).alloc (Nat.le_refl _) _).trans hb1⟩

set_option maxRecDepth 100000 in
set_option maxHeartbeats 1000000 in
theorem LendInos_any {w : World} (A : Option Addr) (n c : Nat) (xs : List Ino) (h : InosIn w A n c xs) :
    Calls Try.prog 38 #[.slice A n c] w fun e w' => ∃ A' c', e = .returned (.slice A' n c') ∧ n + 2 ≤ c' ∧ Inos w' w'.heap.size A' (n + 2) (xs ++ roomInos) ∧ Below w.heap.size w w' := by
  have h0 := h
  obtain ⟨hx, hn, hc, hnil⟩ := h
  obtain ⟨i0, hi, hz0, hz1, hz2⟩ := info_parts Try.infoInoI
  have hlen := hx.1
  have hall' := hid (show ∀ x ∈ xs ++ roomInos, x.fine from fun x hm => by
    rcases List.mem_append.1 hm with hm | hm
    · exact hx.2.1 x hm
    · exact rooms_fine x hm)
  go_enter Try.func38, Try.ntmps38
  go_wp2_with fail
  refine (CopyInos_any A n c xs h0).mono ?_
  rintro e w1 ⟨A1, c1, rfl, hown, hb⟩
  have hsz := hb.size
  go_wp2_with (first
    | ((with_reducible refine at_slot (some 6) ?_); refine wpList_run rfl (.agg roomIno.cells.toArray) w1 (by kernel_rfl) ?_)
    | ((with_reducible refine at_slot (some 7) ?_); refine wpList_run rfl (.agg roomIno.cells.toArray) w1 (by kernel_rfl) ?_)
    | ((with_reducible refine at_slot (some 8) ?_); refine wpList_run rfl (.slice (some ⟨w1.heap.size, 0, none⟩) 2 2) (w1.alloc (.cells (inoCells roomInos).toArray 78)) (by kernel_rfl) ?_)
    | (at_builtin; refine wpList_appends rfl (.tmp 5) (.tmp 8) 64 78 rfl w.heap.size i0 _ 37 72 Try.underlying64 hi hz0 hz1 hz2 (by decide) (by decide) A1 n c1 (inoCells xs) (w1.heap.size + 1) (some ⟨w1.heap.size, 0, none⟩) 2 2 (inoCells roomInos) rfl rfl (fun h => by cases h) (inoCells_each _) (by omega) (by omega) (by exact hown.alloc _) (by exact (inos_pair room_fine room_fine (Holds.new w1 78 (inoCells roomInos).toArray)).at_cells) (by first | (simp; done) | (simp; omega) | omega) ?_; intro A6 c6 w2 hown2 hb2 hg2; have hc6 := own_cap hown2)
    | fail)
  go_ret
  have hown3 : w2.ownsRow w.heap.size 78 37 (.slice A6 (xs ++ roomInos).length c6) (xs ++ roomInos).length (inoCells (xs ++ roomInos)) := by
    rw [inoCells_append, List.length_append, hlen]
    exact hown2
  have hI := inos_of_own hall'.out hown3
  rw [List.length_append, hlen] at hI
  exact ⟨_, _, rfl, own_cap hown2, hI, (hb.alloc hsz _).trans hb2⟩

end Go.Proofs.Ytapegklffglnoaa
