/- Layer 14: ItabForms. -/
import Derived.Test.YtapegklffglnoaaItW
import Derived.Test.YtapegklffglnoaaArith
namespace Go.Proofs.Ytapegklffglnoaa
open Go.RowKit

def inoA : Ino := ⟨2, 0, 0, 1, 9, noHash⟩
def inoB : Ino := ⟨3, 1, 1, 1, 0, noHash⟩
def twoInos : Array Value := (inoA.cells ++ inoB.cells).toArray

/-- A row of two inodes. -/
theorem inos_two {w : World} {q : Nat} {a b : Ino} (ha : a.fine) (hb : b.fine) (h : Holds w q 78 (a.cells ++ b.cells)) : Inos w (q + 1) (some ⟨q, 0, none⟩) 2 [a, b] := by
  have hf : ∀ x ∈ [a, b], x.fine := fun x hx => by
    rcases List.mem_cons.1 hx with rfl | hx
    · exact ha
    · rw [List.mem_singleton.1 hx]; exact hb
  refine ⟨rfl, hf, .inr ⟨_, rfl, Nat.lt_succ_self _, fun i hi j v hv => ?_⟩⟩
  have h1 := inoCells_at hf i hi j v hv
  rw [show inoCells [a, b] = a.cells ++ b.cells from by simp [inoCells]] at h1
  rw [add_add, show (⟨q, 0, none⟩ : Addr).add (i * 37 + j) = ⟨q, i * 37 + j, none⟩ from by unfold Addr.add; split <;> simp_all, h.cell]
  exact h1
theorem fine_of {n k m l s : Int} : (⟨n, k, m, l, s, noHash⟩ : Ino).fine := ino1_fine
theorem not_may {n k m l s : Int} {r : ByteArray} (h : ¬ (1 ≤ n ∧ n ≤ 32 ∧ (k = 0 ∨ k = 1) ∧ (m = 0 ∨ m = 1) ∧ 1 ≤ l ∧ l ≤ 32 ∧ 0 ≤ s ∧ s ≤ 4096 ∧ (k = 0 ∨ s = 0))) : (⟨n, k, m, l, s, r⟩ : Ino).may = false := decide_eq_false h
theorem two_good : itabB [inoA, inoB] = true := itabB_yes ⟨fun x hx => by
    rcases List.mem_cons.1 hx with rfl | hx
    · decide
    · rw [List.mem_singleton.1 hx]; decide, fun i a b hi ha hb => by
    have hi0 : i = 0 := by simp at hi; omega
    subst hi0
    rw [← Option.some.inj ha, ← Option.some.inj hb]
    decide⟩
theorem two_first {a b : Ino} (h : a.may = false) : itabB [a, b] = false := itab_not (List.mem_cons_self ..) h
theorem two_second {a b : Ino} (h : b.may = false) : itabB [a, b] = false := itab_not (List.mem_cons_of_mem _ (List.mem_cons_self ..)) h
theorem two_same {a b : Ino} (h : ¬ a.num < b.num) : itabB [a, b] = false := itabB_no fun hh => h (hh.2 0 a b (by simp) rfl rfl)

theorem forms_case {w W : World} {q : Nat} {a b : Ino} (off : Nat) (v : Value) (hH : Holds W q 78 (inoA.cells ++ inoB.cells)) (hset : (inoA.cells ++ inoB.cells).set off v = a.cells ++ b.cells) (ha : a.fine) (hb : b.fine)
    (hs : q + 1 ≤ W.heap.size) (hB : Below w.heap.size w W) (hwq : w.heap.size ≤ q) (hoff : off < 74) :
    ((∃ u, W.cell? ⟨q, off, none⟩ = some u) ∧ W.frozen? ⟨q, off, none⟩ = false) ∧ Inos (W.setCell ⟨q, off, none⟩ v) (q + 1) (some ⟨q, 0, none⟩) 2 [a, b] ∧ q + 1 ≤ (W.setCell ⟨q, off, none⟩ v).heap.size ∧ Below w.heap.size w (W.setCell ⟨q, off, none⟩ v) := by
  have h1 := hH.set off v
  rw [hset] at h1
  refine ⟨⟨⟨_, (hH.cell off).trans (List.getElem?_eq_getElem (by rw [List.length_append, Ino.len (i := inoA) ino1_fine, Ino.len (i := inoB) ino1_fine]; exact hoff))⟩, hH.frozen off⟩, inos_two ha hb h1, by simpa [World.setCell] using hs, hB.setCell (p := ⟨q, off, none⟩) hwq _⟩

set_option maxRecDepth 100000 in
set_option maxHeartbeats 8000000 in
theorem ItabForms_law {w : World} (which x : Int) :
    Calls Try.prog 12 #[.int .i64 which, .int .i64 x] w fun e w' => e = .returned (.bool true) ∧ Below w.heap.size w w' := by
  obtain ⟨r, hr, hrem⟩ := u_rem which 10 (by decide) (by decide)
  obtain ⟨K, hK, hand, -⟩ := and_mask x 6 (by decide) 63 rfl
  have hK64 : K < 64 := hK
  go_enter Try.func12, Try.ntmps12
  go_wp2_with fail
  refine (awake14_any _).mono ?_
  rintro e W1 ⟨rfl, hb1⟩
  have hB1 := hid hb1
  have hrem' : (IntKind.u64.wrap which).tmod 10 = (r : Int) := hrem
  obtain ⟨q, hq⟩ : ∃ q, W1.heap.size = q := ⟨_, rfl⟩
  have hH1 := hid (show Holds (W1.alloc (.cells twoInos 78)) q 78 (inoA.cells ++ inoB.cells) from by rw [← hq]; exact Holds.new W1 _ twoInos)
  have hI1 := hid (inos_two (a := inoA) (b := inoB) ino1_fine ino1_fine hH1.out)
  have hB2 := hid (show Below w.heap.size w (W1.alloc (.cells twoInos 78)) from hb1.alloc hb1.size _)
  have hs2 := hid (show q + 1 ≤ (W1.alloc (.cells twoInos 78)).heap.size from by simp; omega)
  have hwq := hid (show w.heap.size ≤ q from by rw [← hq]; exact hb1.size)
  have hM := hid (itabMay_any _ 2 2 (q + 1) [inoA, inoB] _ hI1.out hs2.out (by decide))
  rw [two_good] at hM
  clear hb1 hK hrem
  go_wp2_with (first
    | ((with_reducible refine at_slot (some 12) ?_); refine wpList_run rfl (.agg inoA.cells.toArray) W1 (by kernel_rfl) ?_)
    | ((with_reducible refine at_slot (some 13) ?_); refine wpList_run rfl (.agg inoB.cells.toArray) W1 (by kernel_rfl) ?_)
    | ((with_reducible refine at_slot (some 14) ?_); refine wpList_run rfl (.slice (some ⟨W1.heap.size, 0, none⟩) 2 2) (W1.alloc (.cells twoInos 78)) (by kernel_rfl) ?_; rw [hq])
    | fail)
  refine hM.out.mono ?_
  rintro e W2 ⟨rfl, h2⟩
  have hH2 := hid (hH1.out.below h2 (by have := hs2.out; omega))
  have hB3 := hid (hB2.out.trans (h2.mono (by have := hs2.out; have := hwq.out; omega)))
  have hs3 := hid (Nat.le_trans hs2.out h2.size)
  clear h2
  have hc : r = 0 ∨ r = 1 ∨ r = 2 ∨ r = 3 ∨ r = 4 ∨ r = 5 ∨ r = 6 ∨ r = 7 ∨ r = 8 ∨ r = 9 := by omega
  clear hr
  rcases hc with rfl | rfl | rfl | rfl | rfl | rfl | rfl | rfl | rfl | rfl
  · have hrem2 : (IntKind.u64.wrap which).tmod 10 = 0 := hrem'
    obtain ⟨hV, hIV, hsV, hBV⟩ := forms_case (a := ⟨3, 0, 0, 1, 9, noHash⟩) (b := ⟨3, 1, 1, 1, 0, noHash⟩) 0 (.int .i64 (3)) hH2.out (by kernel_rfl) ino1_fine ino1_fine hs3.out hB3.out hwq.out (by decide)
    have hno : itabB [(⟨3, 0, 0, 1, 9, noHash⟩ : Ino), ⟨3, 1, 1, 1, 0, noHash⟩] = false := two_same (show ¬ (3 : Int) < 3 by decide)
    obtain ⟨⟨u, hcell⟩, hfroz⟩ := hV
    have hP := hid (itabPut_any _ 2 2 (q + 1) _ _ hIV hsV (by decide) _ _ (putS_no hno))
    have hIV' := hid hIV
    have hsV' := hid hsV
    have hBV' := hid hBV
    have hno' := hid hno
    clear hIV hsV hBV hno hrem'
    go_wp2_with fail
    refine hP.out.mono ?_
    rintro e W4 ⟨rfl, h4⟩
    have hI4 := hIV'.out.below (h4.mono hsV'.out)
    have hs4 := Nat.le_trans hsV'.out h4.size
    have hB4 := hid (hBV'.out.trans (h4.mono (by have := hsV'.out; have := hwq.out; omega)))
    have hM4 := hid (itabMay_any _ 2 2 (q + 1) _ _ hI4 hs4 (by decide))
    rw [hno'.out] at hM4
    have hs4' := hid hs4
    clear h4 hI4 hs4
    go_wp2_with (go_at_call 16; refine (errNum_any _ _).mono ?_; rintro e w' ⟨rfl, rfl⟩)
    refine hM4.out.mono ?_
    rintro e W5 ⟨rfl, h5⟩
    have hB5 := hid (hB4.out.trans (h5.mono (by have := hs4'.out; have := hwq.out; omega)))
    clear h5
    go_wp2_with (go_at_call 16; refine (errNum_any _ _).mono ?_; rintro e w' ⟨rfl, rfl⟩)
    go_ret
    exact ⟨rfl, hB5.out⟩
  · have hrem2 : (IntKind.u64.wrap which).tmod 10 = 1 := hrem'
    obtain ⟨hV, hIV, hsV, hBV⟩ := forms_case (a := ⟨1 - (1 + (K : Int)), 0, 0, 1, 9, noHash⟩) (b := ⟨3, 1, 1, 1, 0, noHash⟩) 0 (.int .i64 (1 - (1 + (K : Int)))) hH2.out (by kernel_rfl) ino1_fine ino1_fine hs3.out hB3.out hwq.out (by decide)
    have hno : itabB [(⟨1 - (1 + (K : Int)), 0, 0, 1, 9, noHash⟩ : Ino), ⟨3, 1, 1, 1, 0, noHash⟩] = false := two_first (not_may (by omega))
    obtain ⟨⟨u, hcell⟩, hfroz⟩ := hV
    have hP := hid (itabPut_any _ 2 2 (q + 1) _ _ hIV hsV (by decide) _ _ (putS_no hno))
    have hIV' := hid hIV
    have hsV' := hid hsV
    have hBV' := hid hBV
    have hno' := hid hno
    clear hIV hsV hBV hno hrem'
    go_wp2_with fail
    refine hP.out.mono ?_
    rintro e W4 ⟨rfl, h4⟩
    have hI4 := hIV'.out.below (h4.mono hsV'.out)
    have hs4 := Nat.le_trans hsV'.out h4.size
    have hB4 := hid (hBV'.out.trans (h4.mono (by have := hsV'.out; have := hwq.out; omega)))
    have hM4 := hid (itabMay_any _ 2 2 (q + 1) _ _ hI4 hs4 (by decide))
    rw [hno'.out] at hM4
    have hs4' := hid hs4
    clear h4 hI4 hs4
    go_wp2_with (go_at_call 16; refine (errNum_any _ _).mono ?_; rintro e w' ⟨rfl, rfl⟩)
    refine hM4.out.mono ?_
    rintro e W5 ⟨rfl, h5⟩
    have hB5 := hid (hB4.out.trans (h5.mono (by have := hs4'.out; have := hwq.out; omega)))
    clear h5
    go_wp2_with (go_at_call 16; refine (errNum_any _ _).mono ?_; rintro e w' ⟨rfl, rfl⟩)
    go_ret
    exact ⟨rfl, hB5.out⟩
  · have hrem2 : (IntKind.u64.wrap which).tmod 10 = 2 := hrem'
    obtain ⟨hV, hIV, hsV, hBV⟩ := forms_case (a := ⟨2, 0, 0, 1, 9, noHash⟩) (b := ⟨32 + (1 + (K : Int)), 1, 1, 1, 0, noHash⟩) 37 (.int .i64 (32 + (1 + (K : Int)))) hH2.out (by kernel_rfl) ino1_fine ino1_fine hs3.out hB3.out hwq.out (by decide)
    have hno : itabB [(⟨2, 0, 0, 1, 9, noHash⟩ : Ino), ⟨32 + (1 + (K : Int)), 1, 1, 1, 0, noHash⟩] = false := two_second (not_may (by omega))
    obtain ⟨⟨u, hcell⟩, hfroz⟩ := hV
    have hP := hid (itabPut_any _ 2 2 (q + 1) _ _ hIV hsV (by decide) _ _ (putS_no hno))
    have hIV' := hid hIV
    have hsV' := hid hsV
    have hBV' := hid hBV
    have hno' := hid hno
    clear hIV hsV hBV hno hrem'
    go_wp2_with fail
    refine hP.out.mono ?_
    rintro e W4 ⟨rfl, h4⟩
    have hI4 := hIV'.out.below (h4.mono hsV'.out)
    have hs4 := Nat.le_trans hsV'.out h4.size
    have hB4 := hid (hBV'.out.trans (h4.mono (by have := hsV'.out; have := hwq.out; omega)))
    have hM4 := hid (itabMay_any _ 2 2 (q + 1) _ _ hI4 hs4 (by decide))
    rw [hno'.out] at hM4
    have hs4' := hid hs4
    clear h4 hI4 hs4
    go_wp2_with (go_at_call 16; refine (errNum_any _ _).mono ?_; rintro e w' ⟨rfl, rfl⟩)
    refine hM4.out.mono ?_
    rintro e W5 ⟨rfl, h5⟩
    have hB5 := hid (hB4.out.trans (h5.mono (by have := hs4'.out; have := hwq.out; omega)))
    clear h5
    go_wp2_with (go_at_call 16; refine (errNum_any _ _).mono ?_; rintro e w' ⟨rfl, rfl⟩)
    go_ret
    exact ⟨rfl, hB5.out⟩
  · have hrem2 : (IntKind.u64.wrap which).tmod 10 = 3 := hrem'
    obtain ⟨hV, hIV, hsV, hBV⟩ := forms_case (a := ⟨2, 1 + (1 + (K : Int)), 0, 1, 9, noHash⟩) (b := ⟨3, 1, 1, 1, 0, noHash⟩) 1 (.int .i64 (1 + (1 + (K : Int)))) hH2.out (by kernel_rfl) ino1_fine ino1_fine hs3.out hB3.out hwq.out (by decide)
    have hno : itabB [(⟨2, 1 + (1 + (K : Int)), 0, 1, 9, noHash⟩ : Ino), ⟨3, 1, 1, 1, 0, noHash⟩] = false := two_first (not_may (by omega))
    obtain ⟨⟨u, hcell⟩, hfroz⟩ := hV
    have hP := hid (itabPut_any _ 2 2 (q + 1) _ _ hIV hsV (by decide) _ _ (putS_no hno))
    have hIV' := hid hIV
    have hsV' := hid hsV
    have hBV' := hid hBV
    have hno' := hid hno
    clear hIV hsV hBV hno hrem'
    go_wp2_with fail
    refine hP.out.mono ?_
    rintro e W4 ⟨rfl, h4⟩
    have hI4 := hIV'.out.below (h4.mono hsV'.out)
    have hs4 := Nat.le_trans hsV'.out h4.size
    have hB4 := hid (hBV'.out.trans (h4.mono (by have := hsV'.out; have := hwq.out; omega)))
    have hM4 := hid (itabMay_any _ 2 2 (q + 1) _ _ hI4 hs4 (by decide))
    rw [hno'.out] at hM4
    have hs4' := hid hs4
    clear h4 hI4 hs4
    go_wp2_with (go_at_call 16; refine (errNum_any _ _).mono ?_; rintro e w' ⟨rfl, rfl⟩)
    refine hM4.out.mono ?_
    rintro e W5 ⟨rfl, h5⟩
    have hB5 := hid (hB4.out.trans (h5.mono (by have := hs4'.out; have := hwq.out; omega)))
    clear h5
    go_wp2_with (go_at_call 16; refine (errNum_any _ _).mono ?_; rintro e w' ⟨rfl, rfl⟩)
    go_ret
    exact ⟨rfl, hB5.out⟩
  · have hrem2 : (IntKind.u64.wrap which).tmod 10 = 4 := hrem'
    obtain ⟨hV, hIV, hsV, hBV⟩ := forms_case (a := ⟨2, 0, 1 + (1 + (K : Int)), 1, 9, noHash⟩) (b := ⟨3, 1, 1, 1, 0, noHash⟩) 2 (.int .i64 (1 + (1 + (K : Int)))) hH2.out (by kernel_rfl) ino1_fine ino1_fine hs3.out hB3.out hwq.out (by decide)
    have hno : itabB [(⟨2, 0, 1 + (1 + (K : Int)), 1, 9, noHash⟩ : Ino), ⟨3, 1, 1, 1, 0, noHash⟩] = false := two_first (not_may (by omega))
    obtain ⟨⟨u, hcell⟩, hfroz⟩ := hV
    have hP := hid (itabPut_any _ 2 2 (q + 1) _ _ hIV hsV (by decide) _ _ (putS_no hno))
    have hIV' := hid hIV
    have hsV' := hid hsV
    have hBV' := hid hBV
    have hno' := hid hno
    clear hIV hsV hBV hno hrem'
    go_wp2_with fail
    refine hP.out.mono ?_
    rintro e W4 ⟨rfl, h4⟩
    have hI4 := hIV'.out.below (h4.mono hsV'.out)
    have hs4 := Nat.le_trans hsV'.out h4.size
    have hB4 := hid (hBV'.out.trans (h4.mono (by have := hsV'.out; have := hwq.out; omega)))
    have hM4 := hid (itabMay_any _ 2 2 (q + 1) _ _ hI4 hs4 (by decide))
    rw [hno'.out] at hM4
    have hs4' := hid hs4
    clear h4 hI4 hs4
    go_wp2_with (go_at_call 16; refine (errNum_any _ _).mono ?_; rintro e w' ⟨rfl, rfl⟩)
    refine hM4.out.mono ?_
    rintro e W5 ⟨rfl, h5⟩
    have hB5 := hid (hB4.out.trans (h5.mono (by have := hs4'.out; have := hwq.out; omega)))
    clear h5
    go_wp2_with (go_at_call 16; refine (errNum_any _ _).mono ?_; rintro e w' ⟨rfl, rfl⟩)
    go_ret
    exact ⟨rfl, hB5.out⟩
  · have hrem2 : (IntKind.u64.wrap which).tmod 10 = 5 := hrem'
    obtain ⟨hV, hIV, hsV, hBV⟩ := forms_case (a := ⟨2, 0, 0, 1, 9, noHash⟩) (b := ⟨3, 1, -(1 + (K : Int)), 1, 0, noHash⟩) 39 (.int .i64 (-(1 + (K : Int)))) hH2.out (by kernel_rfl) ino1_fine ino1_fine hs3.out hB3.out hwq.out (by decide)
    have hno : itabB [(⟨2, 0, 0, 1, 9, noHash⟩ : Ino), ⟨3, 1, -(1 + (K : Int)), 1, 0, noHash⟩] = false := two_second (not_may (by omega))
    obtain ⟨⟨u, hcell⟩, hfroz⟩ := hV
    have hP := hid (itabPut_any _ 2 2 (q + 1) _ _ hIV hsV (by decide) _ _ (putS_no hno))
    have hIV' := hid hIV
    have hsV' := hid hsV
    have hBV' := hid hBV
    have hno' := hid hno
    clear hIV hsV hBV hno hrem'
    go_wp2_with fail
    refine hP.out.mono ?_
    rintro e W4 ⟨rfl, h4⟩
    have hI4 := hIV'.out.below (h4.mono hsV'.out)
    have hs4 := Nat.le_trans hsV'.out h4.size
    have hB4 := hid (hBV'.out.trans (h4.mono (by have := hsV'.out; have := hwq.out; omega)))
    have hM4 := hid (itabMay_any _ 2 2 (q + 1) _ _ hI4 hs4 (by decide))
    rw [hno'.out] at hM4
    have hs4' := hid hs4
    clear h4 hI4 hs4
    go_wp2_with (go_at_call 16; refine (errNum_any _ _).mono ?_; rintro e w' ⟨rfl, rfl⟩)
    refine hM4.out.mono ?_
    rintro e W5 ⟨rfl, h5⟩
    have hB5 := hid (hB4.out.trans (h5.mono (by have := hs4'.out; have := hwq.out; omega)))
    clear h5
    go_wp2_with (go_at_call 16; refine (errNum_any _ _).mono ?_; rintro e w' ⟨rfl, rfl⟩)
    go_ret
    exact ⟨rfl, hB5.out⟩
  · have hrem2 : (IntKind.u64.wrap which).tmod 10 = 6 := hrem'
    obtain ⟨hV, hIV, hsV, hBV⟩ := forms_case (a := ⟨2, 0, 0, 1 - (1 + (K : Int)), 9, noHash⟩) (b := ⟨3, 1, 1, 1, 0, noHash⟩) 3 (.int .i64 (1 - (1 + (K : Int)))) hH2.out (by kernel_rfl) ino1_fine ino1_fine hs3.out hB3.out hwq.out (by decide)
    have hno : itabB [(⟨2, 0, 0, 1 - (1 + (K : Int)), 9, noHash⟩ : Ino), ⟨3, 1, 1, 1, 0, noHash⟩] = false := two_first (not_may (by omega))
    obtain ⟨⟨u, hcell⟩, hfroz⟩ := hV
    have hP := hid (itabPut_any _ 2 2 (q + 1) _ _ hIV hsV (by decide) _ _ (putS_no hno))
    have hIV' := hid hIV
    have hsV' := hid hsV
    have hBV' := hid hBV
    have hno' := hid hno
    clear hIV hsV hBV hno hrem'
    go_wp2_with fail
    refine hP.out.mono ?_
    rintro e W4 ⟨rfl, h4⟩
    have hI4 := hIV'.out.below (h4.mono hsV'.out)
    have hs4 := Nat.le_trans hsV'.out h4.size
    have hB4 := hid (hBV'.out.trans (h4.mono (by have := hsV'.out; have := hwq.out; omega)))
    have hM4 := hid (itabMay_any _ 2 2 (q + 1) _ _ hI4 hs4 (by decide))
    rw [hno'.out] at hM4
    have hs4' := hid hs4
    clear h4 hI4 hs4
    go_wp2_with (go_at_call 16; refine (errNum_any _ _).mono ?_; rintro e w' ⟨rfl, rfl⟩)
    refine hM4.out.mono ?_
    rintro e W5 ⟨rfl, h5⟩
    have hB5 := hid (hB4.out.trans (h5.mono (by have := hs4'.out; have := hwq.out; omega)))
    clear h5
    go_wp2_with (go_at_call 16; refine (errNum_any _ _).mono ?_; rintro e w' ⟨rfl, rfl⟩)
    go_ret
    exact ⟨rfl, hB5.out⟩
  · have hrem2 : (IntKind.u64.wrap which).tmod 10 = 7 := hrem'
    obtain ⟨hV, hIV, hsV, hBV⟩ := forms_case (a := ⟨2, 0, 0, 1, 9, noHash⟩) (b := ⟨3, 1, 1, 32 + (1 + (K : Int)), 0, noHash⟩) 40 (.int .i64 (32 + (1 + (K : Int)))) hH2.out (by kernel_rfl) ino1_fine ino1_fine hs3.out hB3.out hwq.out (by decide)
    have hno : itabB [(⟨2, 0, 0, 1, 9, noHash⟩ : Ino), ⟨3, 1, 1, 32 + (1 + (K : Int)), 0, noHash⟩] = false := two_second (not_may (by omega))
    obtain ⟨⟨u, hcell⟩, hfroz⟩ := hV
    have hP := hid (itabPut_any _ 2 2 (q + 1) _ _ hIV hsV (by decide) _ _ (putS_no hno))
    have hIV' := hid hIV
    have hsV' := hid hsV
    have hBV' := hid hBV
    have hno' := hid hno
    clear hIV hsV hBV hno hrem'
    go_wp2_with fail
    refine hP.out.mono ?_
    rintro e W4 ⟨rfl, h4⟩
    have hI4 := hIV'.out.below (h4.mono hsV'.out)
    have hs4 := Nat.le_trans hsV'.out h4.size
    have hB4 := hid (hBV'.out.trans (h4.mono (by have := hsV'.out; have := hwq.out; omega)))
    have hM4 := hid (itabMay_any _ 2 2 (q + 1) _ _ hI4 hs4 (by decide))
    rw [hno'.out] at hM4
    have hs4' := hid hs4
    clear h4 hI4 hs4
    go_wp2_with (go_at_call 16; refine (errNum_any _ _).mono ?_; rintro e w' ⟨rfl, rfl⟩)
    refine hM4.out.mono ?_
    rintro e W5 ⟨rfl, h5⟩
    have hB5 := hid (hB4.out.trans (h5.mono (by have := hs4'.out; have := hwq.out; omega)))
    clear h5
    go_wp2_with (go_at_call 16; refine (errNum_any _ _).mono ?_; rintro e w' ⟨rfl, rfl⟩)
    go_ret
    exact ⟨rfl, hB5.out⟩
  · have hrem2 : (IntKind.u64.wrap which).tmod 10 = 8 := hrem'
    obtain ⟨hV, hIV, hsV, hBV⟩ := forms_case (a := ⟨2, 0, 0, 1, 4096 + (1 + (K : Int)), noHash⟩) (b := ⟨3, 1, 1, 1, 0, noHash⟩) 4 (.int .i64 (4096 + (1 + (K : Int)))) hH2.out (by kernel_rfl) ino1_fine ino1_fine hs3.out hB3.out hwq.out (by decide)
    have hno : itabB [(⟨2, 0, 0, 1, 4096 + (1 + (K : Int)), noHash⟩ : Ino), ⟨3, 1, 1, 1, 0, noHash⟩] = false := two_first (not_may (by omega))
    obtain ⟨⟨u, hcell⟩, hfroz⟩ := hV
    have hP := hid (itabPut_any _ 2 2 (q + 1) _ _ hIV hsV (by decide) _ _ (putS_no hno))
    have hIV' := hid hIV
    have hsV' := hid hsV
    have hBV' := hid hBV
    have hno' := hid hno
    clear hIV hsV hBV hno hrem'
    go_wp2_with fail
    refine hP.out.mono ?_
    rintro e W4 ⟨rfl, h4⟩
    have hI4 := hIV'.out.below (h4.mono hsV'.out)
    have hs4 := Nat.le_trans hsV'.out h4.size
    have hB4 := hid (hBV'.out.trans (h4.mono (by have := hsV'.out; have := hwq.out; omega)))
    have hM4 := hid (itabMay_any _ 2 2 (q + 1) _ _ hI4 hs4 (by decide))
    rw [hno'.out] at hM4
    have hs4' := hid hs4
    clear h4 hI4 hs4
    go_wp2_with (go_at_call 16; refine (errNum_any _ _).mono ?_; rintro e w' ⟨rfl, rfl⟩)
    refine hM4.out.mono ?_
    rintro e W5 ⟨rfl, h5⟩
    have hB5 := hid (hB4.out.trans (h5.mono (by have := hs4'.out; have := hwq.out; omega)))
    clear h5
    go_wp2_with (go_at_call 16; refine (errNum_any _ _).mono ?_; rintro e w' ⟨rfl, rfl⟩)
    go_ret
    exact ⟨rfl, hB5.out⟩
  · have hrem2 : (IntKind.u64.wrap which).tmod 10 = 9 := hrem'
    obtain ⟨hV, hIV, hsV, hBV⟩ := forms_case (a := ⟨2, 0, 0, 1, 9, noHash⟩) (b := ⟨3, 1, 1, 1, (1 + (K : Int)), noHash⟩) 41 (.int .i64 ((1 + (K : Int)))) hH2.out (by kernel_rfl) ino1_fine ino1_fine hs3.out hB3.out hwq.out (by decide)
    have hno : itabB [(⟨2, 0, 0, 1, 9, noHash⟩ : Ino), ⟨3, 1, 1, 1, (1 + (K : Int)), noHash⟩] = false := two_second (not_may (by omega))
    obtain ⟨⟨u, hcell⟩, hfroz⟩ := hV
    have hP := hid (itabPut_any _ 2 2 (q + 1) _ _ hIV hsV (by decide) _ _ (putS_no hno))
    have hIV' := hid hIV
    have hsV' := hid hsV
    have hBV' := hid hBV
    have hno' := hid hno
    clear hIV hsV hBV hno hrem'
    go_wp2_with fail
    refine hP.out.mono ?_
    rintro e W4 ⟨rfl, h4⟩
    have hI4 := hIV'.out.below (h4.mono hsV'.out)
    have hs4 := Nat.le_trans hsV'.out h4.size
    have hB4 := hid (hBV'.out.trans (h4.mono (by have := hsV'.out; have := hwq.out; omega)))
    have hM4 := hid (itabMay_any _ 2 2 (q + 1) _ _ hI4 hs4 (by decide))
    rw [hno'.out] at hM4
    have hs4' := hid hs4
    clear h4 hI4 hs4
    go_wp2_with (go_at_call 16; refine (errNum_any _ _).mono ?_; rintro e w' ⟨rfl, rfl⟩)
    refine hM4.out.mono ?_
    rintro e W5 ⟨rfl, h5⟩
    have hB5 := hid (hB4.out.trans (h5.mono (by have := hs4'.out; have := hwq.out; omega)))
    clear h5
    go_wp2_with (go_at_call 16; refine (errNum_any _ _).mono ?_; rintro e w' ⟨rfl, rfl⟩)
    go_ret
    exact ⟨rfl, hB5.out⟩

end Go.Proofs.Ytapegklffglnoaa
