/- Layer 13: DirForms. -/
import Derived.Test.YtapegklffglnoaaDirW
import Derived.Test.YtapegklffglnoaaArith
namespace Go.Proofs.Ytapegklffglnoaa
open Go.RowKit

def entA : Ent := ⟨⟨#[97]⟩, 0, 1⟩
def entB : Ent := ⟨⟨#[98]⟩, 0, 2⟩
theorem entA_fine : entA.fine := by show entA.name.size ≤ 140737488351232; decide +kernel
theorem entB_fine : entB.fine := by show entB.name.size ≤ 140737488351232; decide +kernel
def twoEnts : Array Value := (entA.cells ++ entB.cells).toArray
theorem two_dir : dirB [entA, entB] = true := dir_two (by decide +kernel) (by decide +kernel) (by decide +kernel)
theorem dir_not {xs : List Ent} {x : Ent} (hx : x ∈ xs) (h : x.may = false) : dirB xs = false := dirB_no fun hh => by have := hh.2.1 x hx; rw [h] at this; cases this
theorem dir_first {a b : Ent} (h : a.may = false) : dirB [a, b] = false := dir_not (List.mem_cons_self ..) h
theorem dir_second {a b : Ent} (h : b.may = false) : dirB [a, b] = false := dir_not (List.mem_cons_of_mem _ (List.mem_cons_self ..)) h
theorem dir_order {a b : Ent} (h : lessB a.name b.name = false) : dirB [a, b] = false := dirB_no fun hh => by
  have := hh.2.2 0 a b (by simp) rfl rfl
  rw [h] at this
  cases this
theorem dir_long {xs : List Ent} (h : 32 < xs.length) : dirB xs = false := dirB_no fun hh => by have := hh.1; omega
theorem not_ref {s : ByteArray} {o n : Int} (h : ¬ (0 ≤ o ∧ o < 24 ∧ 1 ≤ n ∧ n ≤ 32)) : (⟨s, o, n⟩ : Ent).may = false := by
  unfold Ent.may refB
  rw [decide_eq_false h, Bool.and_false]
theorem not_long {s : ByteArray} {o n : Int} (h : 24 < s.size) : (⟨s, o, n⟩ : Ent).may = false := by
  cases hm : (⟨s, o, n⟩ : Ent).may with
  | false => rfl
  | true => exact absurd (Ent.bounds hm).2.1 (by show ¬ s.size ≤ 24; omega)
theorem setS_no {xs : List Ent} {x : Ent} (h : dirB xs = false) : setS xs x = ([], 1300) := by
  unfold setS
  rw [h]
  rfl
theorem removeS_no {xs : List Ent} {k : ByteArray} (h : dirB xs = false) : removeS xs k = ([], false) := by
  unfold removeS
  rw [h]
  rfl
theorem ents_two {w : World} {q : Nat} {a b : Ent} (ha : a.fine) (hb : b.fine) (h : Holds w q 60 (a.cells ++ b.cells)) : Ents w w.heap.size (some ⟨q, 0, none⟩) 2 [a, b] := (ents_pair ha hb h).more h.lt
theorem dforms_case {w W : World} {q : Nat} {a b : Ent} (off : Nat) (v : Value) (hH : Holds W q 60 (entA.cells ++ entB.cells)) (hset : (entA.cells ++ entB.cells).set off v = a.cells ++ b.cells) (ha : a.fine) (hb : b.fine)
    (hB : Below w.heap.size w W) (hwq : w.heap.size ≤ q) (hoff : off < 6) :
    ((∃ u, W.cell? ⟨q, off, none⟩ = some u) ∧ W.frozen? ⟨q, off, none⟩ = false) ∧ Ents (W.setCell ⟨q, off, none⟩ v) (W.setCell ⟨q, off, none⟩ v).heap.size (some ⟨q, 0, none⟩) 2 [a, b] ∧ Below w.heap.size w (W.setCell ⟨q, off, none⟩ v) := by
  have h1 := hH.set off v
  rw [hset] at h1
  exact ⟨⟨⟨_, (hH.cell off).trans (List.getElem?_eq_getElem (by rw [List.length_append, Ent.len, Ent.len]; exact hoff))⟩, hH.frozen off⟩, ents_two ha hb h1, hB.setCell (p := ⟨q, off, none⟩) hwq _⟩

theorem made_ents (n : Nat) : madeCells noEnt.cells.toArray (n * 3) = (entCells (List.replicate n noEnt)).toArray := by
  have hf : ∀ x ∈ List.replicate n noEnt, x.fine := fun x hx => by
    rw [List.eq_of_mem_replicate hx]
    show noEnt.name.size ≤ 140737488351232
    decide +kernel
  have hlen := entCells_length hf
  rw [List.length_replicate] at hlen
  apply Array.ext
  · simp [madeCells, hlen]
  · intro j h1 h2
    have hj : j < n * 3 := by simpa [madeCells] using h1
    have hk : j / 3 < n := by omega
    have e := entCells_at hf (j / 3) (by rw [List.length_replicate]; exact hk) (j % 3) (noEnt.cells[j % 3]'(by rw [Ent.len]; omega)) (by rw [List.getElem_replicate]; exact List.getElem?_eq_getElem _)
    rw [show j / 3 * 3 + j % 3 = j from by omega] at e
    have e2 : (entCells (List.replicate n noEnt)).toArray[j] = noEnt.cells[j % 3]'(by rw [Ent.len]; omega) := by
      have := List.getElem?_eq_some_iff.1 e
      simpa using this.2
    rw [e2]
    have hs : noEnt.cells.toArray.size = 3 := rfl
    simp only [madeCells, Array.getElem_map, Array.getElem_range, hs]
    rw [getElem!_pos noEnt.cells.toArray (j % 3) (by rw [hs]; omega)]
    simp

theorem ents_many {w : World} {n0 g n : Nat} (h : w.ownsRow n0 60 3 (.slice (some ⟨g, 0, none⟩) n n) n (madeCells noEnt.cells.toArray (n * 3)).toList) : Ents w w.heap.size (some ⟨g, 0, none⟩) n (List.replicate n noEnt) := by
  rw [made_ents] at h
  have hf : ∀ x ∈ List.replicate n noEnt, x.fine := fun x hx => by
    rw [List.eq_of_mem_replicate hx]
    show noEnt.name.size ≤ 140737488351232
    decide +kernel
  have h1 := ents_of_own (xs := List.replicate n noEnt) (A := some ⟨g, 0, none⟩) (c := n) hf (by rw [List.length_replicate]; exact h)
  rw [List.length_replicate] at h1
  exact h1

def badNames : Array Value := #[.string ⟨#[]⟩, .string ⟨#[46]⟩, .string ⟨#[46, 46]⟩, .string ⟨#[47]⟩, .string ⟨#[97, 47, 98]⟩, .string ⟨#[0]⟩]

set_option maxRecDepth 100000 in
set_option maxHeartbeats 1600000 in
theorem DirForms_law {w : World} (which x : Int) :
    Calls Try.prog 8 #[.int .i64 which, .int .i64 x] w fun e w' => e = .returned (.bool true) ∧ Below w.heap.size w w' := by
  obtain ⟨r, hr, hrem⟩ := u_rem which 9 (by decide) (by decide)
  obtain ⟨L, hL, hand, -⟩ := and_mask x 6 (by decide) 63 rfl
  have hL64 : L < 64 := hL
  go_enter Try.func8, Try.ntmps8
  go_wp2_with fail
  refine (awake13_any _).mono ?_
  rintro e W1 ⟨rfl, hb1⟩
  have hrem' : (IntKind.u64.wrap which).tmod 9 = (r : Int) := hrem
  obtain ⟨q, hq⟩ : ∃ q, W1.heap.size = q := ⟨_, rfl⟩
  have hH1 := hid (show Holds (W1.alloc (.cells twoEnts 60)) q 60 (entA.cells ++ entB.cells) from by rw [← hq]; exact Holds.new W1 _ twoEnts)
  have hI1 := hid (ents_two entA_fine entB_fine hH1.out)
  have hB2 := hid (show Below w.heap.size w (W1.alloc (.cells twoEnts 60)) from hb1.alloc hb1.size _)
  have hwq := hid (show w.heap.size ≤ q from by rw [← hq]; exact hb1.size)
  have hM := hid (dirMay_any _ 2 2 _ [entA, entB] _ hI1.out (Nat.le_refl _) (by decide))
  rw [two_dir] at hM
  clear hb1 hL hrem
  go_wp2_with (first
    | ((with_reducible refine at_slot (some 17) ?_); refine wpList_run rfl (.agg entA.cells.toArray) W1 (by kernel_rfl) ?_)
    | ((with_reducible refine at_slot (some 19) ?_); refine wpList_run rfl (.agg entB.cells.toArray) W1 (by kernel_rfl) ?_)
    | ((with_reducible refine at_slot (some 20) ?_); refine wpList_run rfl (.slice (some ⟨W1.heap.size, 0, none⟩) 2 2) (W1.alloc (.cells twoEnts 60)) (by kernel_rfl) ?_; rw [hq])
    | fail)
  refine hM.out.mono ?_
  rintro e W2 ⟨rfl, h2⟩
  have hH2 := hid (hH1.out.below h2 hH1.out.lt)
  have hB3 := hid (hB2.out.trans (h2.mono hB2.out.size))
  clear h2 hI1 hM hB2 hH1
  have hc : r = 0 ∨ r = 1 ∨ r = 2 ∨ r = 3 ∨ r = 4 ∨ r = 5 ∨ r = 6 ∨ r = 7 ∨ r = 8 := by omega
  clear hr
  rcases hc with rfl | rfl | rfl | rfl | rfl | rfl | rfl | rfl | rfl
  · have hrem2 : (IntKind.u64.wrap which).tmod 9 = 0 := hrem'
    obtain ⟨⟨⟨u, hcell⟩, hfroz⟩, hIV, hBV0⟩ := dforms_case (a := ⟨⟨#[97]⟩, 0, 1⟩) (b := ⟨⟨#[97]⟩, 0, 2⟩) 3 (.string ⟨#[97]⟩) hH2.out (by kernel_rfl) entA_fine entA_fine hB3.out hwq.out (by decide)
    have hno := hid (show dirB [(⟨⟨#[97]⟩, 0, 1⟩ : Ent), ⟨⟨#[97]⟩, 0, 2⟩] = false from dir_order (by decide +kernel))
    have hE := hid hIV
    have hBV := hid hBV0
    clear hIV hBV0 hrem'
    go_wp2_with fail
    refine (dirPut_any _ 2 2 _ _ _ hE.out (Nat.le_refl _) (by decide) _ _ (eputS_no hno.out)).mono ?_
    rintro e W4 ⟨rfl, h4⟩
    have hE4 := hid (hE.out.on h4)
    have hB4 := hid (hBV.out.trans (h4.mono hBV.out.size))
    clear h4 hE hBV
    go_wp2_with (first
      | ((with_reducible refine at_slot (some 100) ?_); refine wpList_run rfl (.agg #[.int .i64 0, .int .i64 1]) W4 (by kernel_rfl) ?_)
      | fail)
    refine (dirSet_any _ 2 2 _ _ ⟨⟨#[99]⟩, 0, 1⟩ W4 hE4.out (Nat.le_refl _) (by decide) (Nat.le_refl _) (fun h => by cases h) (by show (⟨#[99]⟩ : ByteArray).size ≤ maxLen; decide +kernel) _ _ (setS_no hno.out)).mono ?_
    rintro e W5 ⟨A5, c5, he, -, h5⟩
    rw [show ([] : List Ent).length = 0 from rfl] at he
    subst he
    have hE5 := hid (hE4.out.on h5)
    have hB5 := hid (hB4.out.trans (h5.mono hB4.out.size))
    clear h5 hE4 hB4
    go_wp2_with fail
    refine (dirRemove_any _ 2 2 _ _ ⟨#[97]⟩ W5 hE5.out (Nat.le_refl _) (by decide) (Nat.le_refl _) (fun h => by cases h) _ _ (removeS_no hno.out)).mono ?_
    rintro e W6 ⟨A6, c6, he, -, h6⟩
    rw [show ([] : List Ent).length = 0 from rfl] at he
    subst he
    have hE6 := hid (hE5.out.on h6)
    have hB6 := hid (hB5.out.trans (h6.mono hB5.out.size))
    clear h6 hE5 hB5
    have hM6 := hid (dirMay_any _ 2 2 _ _ W6 hE6.out (Nat.le_refl _) (by decide))
    rw [hno.out] at hM6
    go_wp2_with fail
    refine hM6.out.mono ?_
    rintro e W7 ⟨rfl, h7⟩
    have hB7 := hid (hB6.out.trans (h7.mono hB6.out.size))
    clear h7 hM6 hE6 hB6
    go_wp2_with (go_at_call 16; refine (errNum_any _ _).mono ?_; rintro e w' ⟨rfl, rfl⟩)
    go_ret
    exact ⟨rfl, hB7.out⟩
  · have hrem2 : (IntKind.u64.wrap which).tmod 9 = 1 := hrem'
    obtain ⟨⟨⟨u, hcell⟩, hfroz⟩, hIV, hBV0⟩ := dforms_case (a := ⟨⟨#[97]⟩, 0, 1⟩) (b := ⟨⟨#[65]⟩, 0, 2⟩) 3 (.string ⟨#[65]⟩) hH2.out (by kernel_rfl) entA_fine (by show (⟨#[65]⟩ : ByteArray).size ≤ 140737488351232; decide +kernel) hB3.out hwq.out (by decide)
    have hno := hid (show dirB [(⟨⟨#[97]⟩, 0, 1⟩ : Ent), ⟨⟨#[65]⟩, 0, 2⟩] = false from dir_order (by decide +kernel))
    have hE := hid hIV
    have hBV := hid hBV0
    clear hIV hBV0 hrem'
    go_wp2_with fail
    refine (dirPut_any _ 2 2 _ _ _ hE.out (Nat.le_refl _) (by decide) _ _ (eputS_no hno.out)).mono ?_
    rintro e W4 ⟨rfl, h4⟩
    have hE4 := hid (hE.out.on h4)
    have hB4 := hid (hBV.out.trans (h4.mono hBV.out.size))
    clear h4 hE hBV
    go_wp2_with (first
      | ((with_reducible refine at_slot (some 100) ?_); refine wpList_run rfl (.agg #[.int .i64 0, .int .i64 1]) W4 (by kernel_rfl) ?_)
      | fail)
    refine (dirSet_any _ 2 2 _ _ ⟨⟨#[99]⟩, 0, 1⟩ W4 hE4.out (Nat.le_refl _) (by decide) (Nat.le_refl _) (fun h => by cases h) (by show (⟨#[99]⟩ : ByteArray).size ≤ maxLen; decide +kernel) _ _ (setS_no hno.out)).mono ?_
    rintro e W5 ⟨A5, c5, he, -, h5⟩
    rw [show ([] : List Ent).length = 0 from rfl] at he
    subst he
    have hE5 := hid (hE4.out.on h5)
    have hB5 := hid (hB4.out.trans (h5.mono hB4.out.size))
    clear h5 hE4 hB4
    go_wp2_with fail
    refine (dirRemove_any _ 2 2 _ _ ⟨#[97]⟩ W5 hE5.out (Nat.le_refl _) (by decide) (Nat.le_refl _) (fun h => by cases h) _ _ (removeS_no hno.out)).mono ?_
    rintro e W6 ⟨A6, c6, he, -, h6⟩
    rw [show ([] : List Ent).length = 0 from rfl] at he
    subst he
    have hE6 := hid (hE5.out.on h6)
    have hB6 := hid (hB5.out.trans (h6.mono hB5.out.size))
    clear h6 hE5 hB5
    have hM6 := hid (dirMay_any _ 2 2 _ _ W6 hE6.out (Nat.le_refl _) (by decide))
    rw [hno.out] at hM6
    go_wp2_with fail
    refine hM6.out.mono ?_
    rintro e W7 ⟨rfl, h7⟩
    have hB7 := hid (hB6.out.trans (h7.mono hB6.out.size))
    clear h7 hM6 hE6 hB6
    go_wp2_with (go_at_call 16; refine (errNum_any _ _).mono ?_; rintro e w' ⟨rfl, rfl⟩)
    go_ret
    exact ⟨rfl, hB7.out⟩
  · have hrem2 : (IntKind.u64.wrap which).tmod 9 = 2 := hrem'
    obtain ⟨Wb, hWb⟩ : ∃ Wb, W2.alloc (.cells badNames 9) = Wb := ⟨_, rfl⟩
    have hHb := hid (show Holds Wb W2.heap.size 9 badNames.toList from by rw [← hWb]; exact Holds.new _ _ _)
    have hHc := hid (show Holds Wb q 60 (entA.cells ++ entB.cells) from by rw [← hWb]; exact hH2.out.alloc _)
    have hBc := hid (show Below w.heap.size w Wb from by rw [← hWb]; exact hB3.out.alloc hB3.out.size _)
    have hWb' := hid hWb
    clear hWb
    have hm : (1 + (L : Int)).tmod 6 = ((1 + L) % 6 : Nat) := by rw [Int.tmod_eq_emod_of_nonneg (by omega)]; omega
    have hc6 : (1 + L) % 6 = 0 ∨ (1 + L) % 6 = 1 ∨ (1 + L) % 6 = 2 ∨ (1 + L) % 6 = 3 ∨ (1 + L) % 6 = 4 ∨ (1 + L) % 6 = 5 := by omega
    rcases hc6 with hj | hj | hj | hj | hj | hj
    · rw [hj] at hm
      have hm2 : (1 + (L : Int)).tmod 6 = 0 := hm
      have hcb : Wb.cell? ⟨W2.heap.size, 0, none⟩ = some (.string ⟨#[]⟩) := (hHb.out.cell 0).trans rfl
      obtain ⟨⟨⟨u, hcell⟩, hfroz⟩, hIV, hBV0⟩ := dforms_case (a := ⟨⟨#[]⟩, 0, 1⟩) (b := ⟨⟨#[98]⟩, 0, 2⟩) 0 (.string ⟨#[]⟩) hHc.out (by kernel_rfl) (by show (⟨#[]⟩ : ByteArray).size ≤ 140737488351232; decide +kernel) entB_fine hBc.out hwq.out (by decide)
      have hno := hid (show dirB [(⟨⟨#[]⟩, 0, 1⟩ : Ent), ⟨⟨#[98]⟩, 0, 2⟩] = false from dir_first (by decide +kernel))
      have hE := hid hIV
      have hBV := hid hBV0
      clear hIV hBV0 hrem' hm hj
      go_wp2_with (first
        | ((with_reducible refine at_slot (some 45) ?_); refine wpList_run rfl (.slice (some ⟨W2.heap.size, 0, none⟩) 6 6) (W2.alloc (.cells badNames 9)) (by kernel_rfl) ?_; rw [hWb'.out])
        | fail)
      refine (dirPut_any _ 2 2 _ _ _ hE.out (Nat.le_refl _) (by decide) _ _ (eputS_no hno.out)).mono ?_
      rintro e W4 ⟨rfl, h4⟩
      have hE4 := hid (hE.out.on h4)
      have hB4 := hid (hBV.out.trans (h4.mono hBV.out.size))
      clear h4 hE hBV
      go_wp2_with (first
        | ((with_reducible refine at_slot (some 100) ?_); refine wpList_run rfl (.agg #[.int .i64 0, .int .i64 1]) W4 (by kernel_rfl) ?_)
        | fail)
      refine (dirSet_any _ 2 2 _ _ ⟨⟨#[99]⟩, 0, 1⟩ W4 hE4.out (Nat.le_refl _) (by decide) (Nat.le_refl _) (fun h => by cases h) (by show (⟨#[99]⟩ : ByteArray).size ≤ maxLen; decide +kernel) _ _ (setS_no hno.out)).mono ?_
      rintro e W5 ⟨A5, c5, he, -, h5⟩
      rw [show ([] : List Ent).length = 0 from rfl] at he
      subst he
      have hE5 := hid (hE4.out.on h5)
      have hB5 := hid (hB4.out.trans (h5.mono hB4.out.size))
      clear h5 hE4 hB4
      go_wp2_with fail
      refine (dirRemove_any _ 2 2 _ _ ⟨#[97]⟩ W5 hE5.out (Nat.le_refl _) (by decide) (Nat.le_refl _) (fun h => by cases h) _ _ (removeS_no hno.out)).mono ?_
      rintro e W6 ⟨A6, c6, he, -, h6⟩
      rw [show ([] : List Ent).length = 0 from rfl] at he
      subst he
      have hE6 := hid (hE5.out.on h6)
      have hB6 := hid (hB5.out.trans (h6.mono hB5.out.size))
      clear h6 hE5 hB5
      have hM6 := hid (dirMay_any _ 2 2 _ _ W6 hE6.out (Nat.le_refl _) (by decide))
      rw [hno.out] at hM6
      go_wp2_with fail
      refine hM6.out.mono ?_
      rintro e W7 ⟨rfl, h7⟩
      have hB7 := hid (hB6.out.trans (h7.mono hB6.out.size))
      clear h7 hM6 hE6 hB6
      go_wp2_with (go_at_call 16; refine (errNum_any _ _).mono ?_; rintro e w' ⟨rfl, rfl⟩)
      go_ret
      exact ⟨rfl, hB7.out⟩
    · rw [hj] at hm
      have hm2 : (1 + (L : Int)).tmod 6 = 1 := hm
      have hcb : Wb.cell? ⟨W2.heap.size, 1, none⟩ = some (.string ⟨#[46]⟩) := (hHb.out.cell 1).trans rfl
      obtain ⟨⟨⟨u, hcell⟩, hfroz⟩, hIV, hBV0⟩ := dforms_case (a := ⟨⟨#[46]⟩, 0, 1⟩) (b := ⟨⟨#[98]⟩, 0, 2⟩) 0 (.string ⟨#[46]⟩) hHc.out (by kernel_rfl) (by show (⟨#[46]⟩ : ByteArray).size ≤ 140737488351232; decide +kernel) entB_fine hBc.out hwq.out (by decide)
      have hno := hid (show dirB [(⟨⟨#[46]⟩, 0, 1⟩ : Ent), ⟨⟨#[98]⟩, 0, 2⟩] = false from dir_first (by decide +kernel))
      have hE := hid hIV
      have hBV := hid hBV0
      clear hIV hBV0 hrem' hm hj
      go_wp2_with (first
        | ((with_reducible refine at_slot (some 45) ?_); refine wpList_run rfl (.slice (some ⟨W2.heap.size, 0, none⟩) 6 6) (W2.alloc (.cells badNames 9)) (by kernel_rfl) ?_; rw [hWb'.out])
        | fail)
      refine (dirPut_any _ 2 2 _ _ _ hE.out (Nat.le_refl _) (by decide) _ _ (eputS_no hno.out)).mono ?_
      rintro e W4 ⟨rfl, h4⟩
      have hE4 := hid (hE.out.on h4)
      have hB4 := hid (hBV.out.trans (h4.mono hBV.out.size))
      clear h4 hE hBV
      go_wp2_with (first
        | ((with_reducible refine at_slot (some 100) ?_); refine wpList_run rfl (.agg #[.int .i64 0, .int .i64 1]) W4 (by kernel_rfl) ?_)
        | fail)
      refine (dirSet_any _ 2 2 _ _ ⟨⟨#[99]⟩, 0, 1⟩ W4 hE4.out (Nat.le_refl _) (by decide) (Nat.le_refl _) (fun h => by cases h) (by show (⟨#[99]⟩ : ByteArray).size ≤ maxLen; decide +kernel) _ _ (setS_no hno.out)).mono ?_
      rintro e W5 ⟨A5, c5, he, -, h5⟩
      rw [show ([] : List Ent).length = 0 from rfl] at he
      subst he
      have hE5 := hid (hE4.out.on h5)
      have hB5 := hid (hB4.out.trans (h5.mono hB4.out.size))
      clear h5 hE4 hB4
      go_wp2_with fail
      refine (dirRemove_any _ 2 2 _ _ ⟨#[97]⟩ W5 hE5.out (Nat.le_refl _) (by decide) (Nat.le_refl _) (fun h => by cases h) _ _ (removeS_no hno.out)).mono ?_
      rintro e W6 ⟨A6, c6, he, -, h6⟩
      rw [show ([] : List Ent).length = 0 from rfl] at he
      subst he
      have hE6 := hid (hE5.out.on h6)
      have hB6 := hid (hB5.out.trans (h6.mono hB5.out.size))
      clear h6 hE5 hB5
      have hM6 := hid (dirMay_any _ 2 2 _ _ W6 hE6.out (Nat.le_refl _) (by decide))
      rw [hno.out] at hM6
      go_wp2_with fail
      refine hM6.out.mono ?_
      rintro e W7 ⟨rfl, h7⟩
      have hB7 := hid (hB6.out.trans (h7.mono hB6.out.size))
      clear h7 hM6 hE6 hB6
      go_wp2_with (go_at_call 16; refine (errNum_any _ _).mono ?_; rintro e w' ⟨rfl, rfl⟩)
      go_ret
      exact ⟨rfl, hB7.out⟩
    · rw [hj] at hm
      have hm2 : (1 + (L : Int)).tmod 6 = 2 := hm
      have hcb : Wb.cell? ⟨W2.heap.size, 2, none⟩ = some (.string ⟨#[46, 46]⟩) := (hHb.out.cell 2).trans rfl
      obtain ⟨⟨⟨u, hcell⟩, hfroz⟩, hIV, hBV0⟩ := dforms_case (a := ⟨⟨#[46, 46]⟩, 0, 1⟩) (b := ⟨⟨#[98]⟩, 0, 2⟩) 0 (.string ⟨#[46, 46]⟩) hHc.out (by kernel_rfl) (by show (⟨#[46, 46]⟩ : ByteArray).size ≤ 140737488351232; decide +kernel) entB_fine hBc.out hwq.out (by decide)
      have hno := hid (show dirB [(⟨⟨#[46, 46]⟩, 0, 1⟩ : Ent), ⟨⟨#[98]⟩, 0, 2⟩] = false from dir_first (by decide +kernel))
      have hE := hid hIV
      have hBV := hid hBV0
      clear hIV hBV0 hrem' hm hj
      go_wp2_with (first
        | ((with_reducible refine at_slot (some 45) ?_); refine wpList_run rfl (.slice (some ⟨W2.heap.size, 0, none⟩) 6 6) (W2.alloc (.cells badNames 9)) (by kernel_rfl) ?_; rw [hWb'.out])
        | fail)
      refine (dirPut_any _ 2 2 _ _ _ hE.out (Nat.le_refl _) (by decide) _ _ (eputS_no hno.out)).mono ?_
      rintro e W4 ⟨rfl, h4⟩
      have hE4 := hid (hE.out.on h4)
      have hB4 := hid (hBV.out.trans (h4.mono hBV.out.size))
      clear h4 hE hBV
      go_wp2_with (first
        | ((with_reducible refine at_slot (some 100) ?_); refine wpList_run rfl (.agg #[.int .i64 0, .int .i64 1]) W4 (by kernel_rfl) ?_)
        | fail)
      refine (dirSet_any _ 2 2 _ _ ⟨⟨#[99]⟩, 0, 1⟩ W4 hE4.out (Nat.le_refl _) (by decide) (Nat.le_refl _) (fun h => by cases h) (by show (⟨#[99]⟩ : ByteArray).size ≤ maxLen; decide +kernel) _ _ (setS_no hno.out)).mono ?_
      rintro e W5 ⟨A5, c5, he, -, h5⟩
      rw [show ([] : List Ent).length = 0 from rfl] at he
      subst he
      have hE5 := hid (hE4.out.on h5)
      have hB5 := hid (hB4.out.trans (h5.mono hB4.out.size))
      clear h5 hE4 hB4
      go_wp2_with fail
      refine (dirRemove_any _ 2 2 _ _ ⟨#[97]⟩ W5 hE5.out (Nat.le_refl _) (by decide) (Nat.le_refl _) (fun h => by cases h) _ _ (removeS_no hno.out)).mono ?_
      rintro e W6 ⟨A6, c6, he, -, h6⟩
      rw [show ([] : List Ent).length = 0 from rfl] at he
      subst he
      have hE6 := hid (hE5.out.on h6)
      have hB6 := hid (hB5.out.trans (h6.mono hB5.out.size))
      clear h6 hE5 hB5
      have hM6 := hid (dirMay_any _ 2 2 _ _ W6 hE6.out (Nat.le_refl _) (by decide))
      rw [hno.out] at hM6
      go_wp2_with fail
      refine hM6.out.mono ?_
      rintro e W7 ⟨rfl, h7⟩
      have hB7 := hid (hB6.out.trans (h7.mono hB6.out.size))
      clear h7 hM6 hE6 hB6
      go_wp2_with (go_at_call 16; refine (errNum_any _ _).mono ?_; rintro e w' ⟨rfl, rfl⟩)
      go_ret
      exact ⟨rfl, hB7.out⟩
    · rw [hj] at hm
      have hm2 : (1 + (L : Int)).tmod 6 = 3 := hm
      have hcb : Wb.cell? ⟨W2.heap.size, 3, none⟩ = some (.string ⟨#[47]⟩) := (hHb.out.cell 3).trans rfl
      obtain ⟨⟨⟨u, hcell⟩, hfroz⟩, hIV, hBV0⟩ := dforms_case (a := ⟨⟨#[47]⟩, 0, 1⟩) (b := ⟨⟨#[98]⟩, 0, 2⟩) 0 (.string ⟨#[47]⟩) hHc.out (by kernel_rfl) (by show (⟨#[47]⟩ : ByteArray).size ≤ 140737488351232; decide +kernel) entB_fine hBc.out hwq.out (by decide)
      have hno := hid (show dirB [(⟨⟨#[47]⟩, 0, 1⟩ : Ent), ⟨⟨#[98]⟩, 0, 2⟩] = false from dir_first (by decide +kernel))
      have hE := hid hIV
      have hBV := hid hBV0
      clear hIV hBV0 hrem' hm hj
      go_wp2_with (first
        | ((with_reducible refine at_slot (some 45) ?_); refine wpList_run rfl (.slice (some ⟨W2.heap.size, 0, none⟩) 6 6) (W2.alloc (.cells badNames 9)) (by kernel_rfl) ?_; rw [hWb'.out])
        | fail)
      refine (dirPut_any _ 2 2 _ _ _ hE.out (Nat.le_refl _) (by decide) _ _ (eputS_no hno.out)).mono ?_
      rintro e W4 ⟨rfl, h4⟩
      have hE4 := hid (hE.out.on h4)
      have hB4 := hid (hBV.out.trans (h4.mono hBV.out.size))
      clear h4 hE hBV
      go_wp2_with (first
        | ((with_reducible refine at_slot (some 100) ?_); refine wpList_run rfl (.agg #[.int .i64 0, .int .i64 1]) W4 (by kernel_rfl) ?_)
        | fail)
      refine (dirSet_any _ 2 2 _ _ ⟨⟨#[99]⟩, 0, 1⟩ W4 hE4.out (Nat.le_refl _) (by decide) (Nat.le_refl _) (fun h => by cases h) (by show (⟨#[99]⟩ : ByteArray).size ≤ maxLen; decide +kernel) _ _ (setS_no hno.out)).mono ?_
      rintro e W5 ⟨A5, c5, he, -, h5⟩
      rw [show ([] : List Ent).length = 0 from rfl] at he
      subst he
      have hE5 := hid (hE4.out.on h5)
      have hB5 := hid (hB4.out.trans (h5.mono hB4.out.size))
      clear h5 hE4 hB4
      go_wp2_with fail
      refine (dirRemove_any _ 2 2 _ _ ⟨#[97]⟩ W5 hE5.out (Nat.le_refl _) (by decide) (Nat.le_refl _) (fun h => by cases h) _ _ (removeS_no hno.out)).mono ?_
      rintro e W6 ⟨A6, c6, he, -, h6⟩
      rw [show ([] : List Ent).length = 0 from rfl] at he
      subst he
      have hE6 := hid (hE5.out.on h6)
      have hB6 := hid (hB5.out.trans (h6.mono hB5.out.size))
      clear h6 hE5 hB5
      have hM6 := hid (dirMay_any _ 2 2 _ _ W6 hE6.out (Nat.le_refl _) (by decide))
      rw [hno.out] at hM6
      go_wp2_with fail
      refine hM6.out.mono ?_
      rintro e W7 ⟨rfl, h7⟩
      have hB7 := hid (hB6.out.trans (h7.mono hB6.out.size))
      clear h7 hM6 hE6 hB6
      go_wp2_with (go_at_call 16; refine (errNum_any _ _).mono ?_; rintro e w' ⟨rfl, rfl⟩)
      go_ret
      exact ⟨rfl, hB7.out⟩
    · rw [hj] at hm
      have hm2 : (1 + (L : Int)).tmod 6 = 4 := hm
      have hcb : Wb.cell? ⟨W2.heap.size, 4, none⟩ = some (.string ⟨#[97, 47, 98]⟩) := (hHb.out.cell 4).trans rfl
      obtain ⟨⟨⟨u, hcell⟩, hfroz⟩, hIV, hBV0⟩ := dforms_case (a := ⟨⟨#[97, 47, 98]⟩, 0, 1⟩) (b := ⟨⟨#[98]⟩, 0, 2⟩) 0 (.string ⟨#[97, 47, 98]⟩) hHc.out (by kernel_rfl) (by show (⟨#[97, 47, 98]⟩ : ByteArray).size ≤ 140737488351232; decide +kernel) entB_fine hBc.out hwq.out (by decide)
      have hno := hid (show dirB [(⟨⟨#[97, 47, 98]⟩, 0, 1⟩ : Ent), ⟨⟨#[98]⟩, 0, 2⟩] = false from dir_first (by decide +kernel))
      have hE := hid hIV
      have hBV := hid hBV0
      clear hIV hBV0 hrem' hm hj
      go_wp2_with (first
        | ((with_reducible refine at_slot (some 45) ?_); refine wpList_run rfl (.slice (some ⟨W2.heap.size, 0, none⟩) 6 6) (W2.alloc (.cells badNames 9)) (by kernel_rfl) ?_; rw [hWb'.out])
        | fail)
      refine (dirPut_any _ 2 2 _ _ _ hE.out (Nat.le_refl _) (by decide) _ _ (eputS_no hno.out)).mono ?_
      rintro e W4 ⟨rfl, h4⟩
      have hE4 := hid (hE.out.on h4)
      have hB4 := hid (hBV.out.trans (h4.mono hBV.out.size))
      clear h4 hE hBV
      go_wp2_with (first
        | ((with_reducible refine at_slot (some 100) ?_); refine wpList_run rfl (.agg #[.int .i64 0, .int .i64 1]) W4 (by kernel_rfl) ?_)
        | fail)
      refine (dirSet_any _ 2 2 _ _ ⟨⟨#[99]⟩, 0, 1⟩ W4 hE4.out (Nat.le_refl _) (by decide) (Nat.le_refl _) (fun h => by cases h) (by show (⟨#[99]⟩ : ByteArray).size ≤ maxLen; decide +kernel) _ _ (setS_no hno.out)).mono ?_
      rintro e W5 ⟨A5, c5, he, -, h5⟩
      rw [show ([] : List Ent).length = 0 from rfl] at he
      subst he
      have hE5 := hid (hE4.out.on h5)
      have hB5 := hid (hB4.out.trans (h5.mono hB4.out.size))
      clear h5 hE4 hB4
      go_wp2_with fail
      refine (dirRemove_any _ 2 2 _ _ ⟨#[97]⟩ W5 hE5.out (Nat.le_refl _) (by decide) (Nat.le_refl _) (fun h => by cases h) _ _ (removeS_no hno.out)).mono ?_
      rintro e W6 ⟨A6, c6, he, -, h6⟩
      rw [show ([] : List Ent).length = 0 from rfl] at he
      subst he
      have hE6 := hid (hE5.out.on h6)
      have hB6 := hid (hB5.out.trans (h6.mono hB5.out.size))
      clear h6 hE5 hB5
      have hM6 := hid (dirMay_any _ 2 2 _ _ W6 hE6.out (Nat.le_refl _) (by decide))
      rw [hno.out] at hM6
      go_wp2_with fail
      refine hM6.out.mono ?_
      rintro e W7 ⟨rfl, h7⟩
      have hB7 := hid (hB6.out.trans (h7.mono hB6.out.size))
      clear h7 hM6 hE6 hB6
      go_wp2_with (go_at_call 16; refine (errNum_any _ _).mono ?_; rintro e w' ⟨rfl, rfl⟩)
      go_ret
      exact ⟨rfl, hB7.out⟩
    · rw [hj] at hm
      have hm2 : (1 + (L : Int)).tmod 6 = 5 := hm
      have hcb : Wb.cell? ⟨W2.heap.size, 5, none⟩ = some (.string ⟨#[0]⟩) := (hHb.out.cell 5).trans rfl
      obtain ⟨⟨⟨u, hcell⟩, hfroz⟩, hIV, hBV0⟩ := dforms_case (a := ⟨⟨#[0]⟩, 0, 1⟩) (b := ⟨⟨#[98]⟩, 0, 2⟩) 0 (.string ⟨#[0]⟩) hHc.out (by kernel_rfl) (by show (⟨#[0]⟩ : ByteArray).size ≤ 140737488351232; decide +kernel) entB_fine hBc.out hwq.out (by decide)
      have hno := hid (show dirB [(⟨⟨#[0]⟩, 0, 1⟩ : Ent), ⟨⟨#[98]⟩, 0, 2⟩] = false from dir_first (by decide +kernel))
      have hE := hid hIV
      have hBV := hid hBV0
      clear hIV hBV0 hrem' hm hj
      go_wp2_with (first
        | ((with_reducible refine at_slot (some 45) ?_); refine wpList_run rfl (.slice (some ⟨W2.heap.size, 0, none⟩) 6 6) (W2.alloc (.cells badNames 9)) (by kernel_rfl) ?_; rw [hWb'.out])
        | fail)
      refine (dirPut_any _ 2 2 _ _ _ hE.out (Nat.le_refl _) (by decide) _ _ (eputS_no hno.out)).mono ?_
      rintro e W4 ⟨rfl, h4⟩
      have hE4 := hid (hE.out.on h4)
      have hB4 := hid (hBV.out.trans (h4.mono hBV.out.size))
      clear h4 hE hBV
      go_wp2_with (first
        | ((with_reducible refine at_slot (some 100) ?_); refine wpList_run rfl (.agg #[.int .i64 0, .int .i64 1]) W4 (by kernel_rfl) ?_)
        | fail)
      refine (dirSet_any _ 2 2 _ _ ⟨⟨#[99]⟩, 0, 1⟩ W4 hE4.out (Nat.le_refl _) (by decide) (Nat.le_refl _) (fun h => by cases h) (by show (⟨#[99]⟩ : ByteArray).size ≤ maxLen; decide +kernel) _ _ (setS_no hno.out)).mono ?_
      rintro e W5 ⟨A5, c5, he, -, h5⟩
      rw [show ([] : List Ent).length = 0 from rfl] at he
      subst he
      have hE5 := hid (hE4.out.on h5)
      have hB5 := hid (hB4.out.trans (h5.mono hB4.out.size))
      clear h5 hE4 hB4
      go_wp2_with fail
      refine (dirRemove_any _ 2 2 _ _ ⟨#[97]⟩ W5 hE5.out (Nat.le_refl _) (by decide) (Nat.le_refl _) (fun h => by cases h) _ _ (removeS_no hno.out)).mono ?_
      rintro e W6 ⟨A6, c6, he, -, h6⟩
      rw [show ([] : List Ent).length = 0 from rfl] at he
      subst he
      have hE6 := hid (hE5.out.on h6)
      have hB6 := hid (hB5.out.trans (h6.mono hB5.out.size))
      clear h6 hE5 hB5
      have hM6 := hid (dirMay_any _ 2 2 _ _ W6 hE6.out (Nat.le_refl _) (by decide))
      rw [hno.out] at hM6
      go_wp2_with fail
      refine hM6.out.mono ?_
      rintro e W7 ⟨rfl, h7⟩
      have hB7 := hid (hB6.out.trans (h7.mono hB6.out.size))
      clear h7 hM6 hE6 hB6
      go_wp2_with (go_at_call 16; refine (errNum_any _ _).mono ?_; rintro e w' ⟨rfl, rfl⟩)
      go_ret
      exact ⟨rfl, hB7.out⟩
  · have hrem2 : (IntKind.u64.wrap which).tmod 9 = 3 := hrem'
    obtain ⟨i0, hi, hz0, hzz, hby⟩ := info_parts Try.infoU8
    obtain ⟨z, hz⟩ : ∃ z, zeroS (25 + L) = z := ⟨_, rfl⟩
    have hzs : z.size = 25 + L := by rw [← hz]; exact zeroS_size _
    have hz' := hid hz
    clear hz
    have hl1 := IntWalk.i64_in (24 + (1 + (L : Int))) (by omega)
    go_wp2_with (first
      | ((with_reducible refine at_slot (some 57) ?_); refine wpList_make_zeros rfl _ _ 62 rfl 5 i0 Try.underlying62 hi hz0 hzz hby _ (25 + L) rfl rfl (by omega) (by omega) z hz'.out ?_; intro Wz hRz bz; have hcv := run_convert_row (P := Try.prog) (w := Wz) (e := 5) 62 9 Try.underlying62 Try.underlying5 Try.underlying9 hzs.symm hRz; have hcv' := hid hcv; have bz' := hid bz; have hHz := hid (hH2.out.below bz hH2.out.lt); obtain ⟨⟨⟨u, hcell⟩, hfroz⟩, hIV, hBV0⟩ := dforms_case (a := ⟨z, 0, 1⟩) (b := ⟨⟨#[98]⟩, 0, 2⟩) 0 (.string z) hHz.out rfl (by show z.size ≤ 140737488351232; omega) entB_fine (hB3.out.trans (bz.mono hB3.out.size)) hwq.out (by decide); have hno := hid (show dirB [(⟨z, 0, 1⟩ : Ent), ⟨⟨#[98]⟩, 0, 2⟩] = false from dir_first (not_long (by omega))); have hE := hid hIV; have hBV := hid hBV0; clear hIV hBV0 bz hcv hRz)
      | ((with_reducible refine at_slot (some 58) ?_); refine wpList_convert rfl 62 9 (.tmp 57) rfl _ (.string z) _ rfl (by exact hcv'.out) ?_)
      | fail)
    refine (dirPut_any _ 2 2 _ _ _ hE.out (Nat.le_refl _) (by decide) _ _ (eputS_no hno.out)).mono ?_
    rintro e W4 ⟨rfl, h4⟩
    have hE4 := hid (hE.out.on h4)
    have hB4 := hid (hBV.out.trans (h4.mono hBV.out.size))
    clear h4 hE hBV
    go_wp2_with (first
      | ((with_reducible refine at_slot (some 100) ?_); refine wpList_run rfl (.agg #[.int .i64 0, .int .i64 1]) W4 (by kernel_rfl) ?_)
      | fail)
    refine (dirSet_any _ 2 2 _ _ ⟨⟨#[99]⟩, 0, 1⟩ W4 hE4.out (Nat.le_refl _) (by decide) (Nat.le_refl _) (fun h => by cases h) (by show (⟨#[99]⟩ : ByteArray).size ≤ maxLen; decide +kernel) _ _ (setS_no hno.out)).mono ?_
    rintro e W5 ⟨A5, c5, he, -, h5⟩
    rw [show ([] : List Ent).length = 0 from rfl] at he
    subst he
    have hE5 := hid (hE4.out.on h5)
    have hB5 := hid (hB4.out.trans (h5.mono hB4.out.size))
    clear h5 hE4 hB4
    go_wp2_with fail
    refine (dirRemove_any _ 2 2 _ _ ⟨#[97]⟩ W5 hE5.out (Nat.le_refl _) (by decide) (Nat.le_refl _) (fun h => by cases h) _ _ (removeS_no hno.out)).mono ?_
    rintro e W6 ⟨A6, c6, he, -, h6⟩
    rw [show ([] : List Ent).length = 0 from rfl] at he
    subst he
    have hE6 := hid (hE5.out.on h6)
    have hB6 := hid (hB5.out.trans (h6.mono hB5.out.size))
    clear h6 hE5 hB5
    have hM6 := hid (dirMay_any _ 2 2 _ _ W6 hE6.out (Nat.le_refl _) (by decide))
    rw [hno.out] at hM6
    go_wp2_with fail
    refine hM6.out.mono ?_
    rintro e W7 ⟨rfl, h7⟩
    have hB7 := hid (hB6.out.trans (h7.mono hB6.out.size))
    clear h7 hM6 hE6 hB6
    go_wp2_with (go_at_call 16; refine (errNum_any _ _).mono ?_; rintro e w' ⟨rfl, rfl⟩)
    go_ret
    exact ⟨rfl, hB7.out⟩
  · have hrem2 : (IntKind.u64.wrap which).tmod 9 = 4 := hrem'
    obtain ⟨⟨⟨u, hcell⟩, hfroz⟩, hIV, hBV0⟩ := dforms_case (a := ⟨⟨#[97]⟩, -(1 + (L : Int)), 1⟩) (b := ⟨⟨#[98]⟩, 0, 2⟩) 1 (.int .i64 (-(1 + (L : Int)))) hH2.out (by kernel_rfl) entA_fine entB_fine hB3.out hwq.out (by decide)
    have hno := hid (show dirB [(⟨⟨#[97]⟩, -(1 + (L : Int)), 1⟩ : Ent), ⟨⟨#[98]⟩, 0, 2⟩] = false from dir_first (not_ref (by omega)))
    have hE := hid hIV
    have hBV := hid hBV0
    clear hIV hBV0 hrem'
    go_wp2_with fail
    refine (dirPut_any _ 2 2 _ _ _ hE.out (Nat.le_refl _) (by decide) _ _ (eputS_no hno.out)).mono ?_
    rintro e W4 ⟨rfl, h4⟩
    have hE4 := hid (hE.out.on h4)
    have hB4 := hid (hBV.out.trans (h4.mono hBV.out.size))
    clear h4 hE hBV
    go_wp2_with (first
      | ((with_reducible refine at_slot (some 100) ?_); refine wpList_run rfl (.agg #[.int .i64 0, .int .i64 1]) W4 (by kernel_rfl) ?_)
      | fail)
    refine (dirSet_any _ 2 2 _ _ ⟨⟨#[99]⟩, 0, 1⟩ W4 hE4.out (Nat.le_refl _) (by decide) (Nat.le_refl _) (fun h => by cases h) (by show (⟨#[99]⟩ : ByteArray).size ≤ maxLen; decide +kernel) _ _ (setS_no hno.out)).mono ?_
    rintro e W5 ⟨A5, c5, he, -, h5⟩
    rw [show ([] : List Ent).length = 0 from rfl] at he
    subst he
    have hE5 := hid (hE4.out.on h5)
    have hB5 := hid (hB4.out.trans (h5.mono hB4.out.size))
    clear h5 hE4 hB4
    go_wp2_with fail
    refine (dirRemove_any _ 2 2 _ _ ⟨#[97]⟩ W5 hE5.out (Nat.le_refl _) (by decide) (Nat.le_refl _) (fun h => by cases h) _ _ (removeS_no hno.out)).mono ?_
    rintro e W6 ⟨A6, c6, he, -, h6⟩
    rw [show ([] : List Ent).length = 0 from rfl] at he
    subst he
    have hE6 := hid (hE5.out.on h6)
    have hB6 := hid (hB5.out.trans (h6.mono hB5.out.size))
    clear h6 hE5 hB5
    have hM6 := hid (dirMay_any _ 2 2 _ _ W6 hE6.out (Nat.le_refl _) (by decide))
    rw [hno.out] at hM6
    go_wp2_with fail
    refine hM6.out.mono ?_
    rintro e W7 ⟨rfl, h7⟩
    have hB7 := hid (hB6.out.trans (h7.mono hB6.out.size))
    clear h7 hM6 hE6 hB6
    go_wp2_with (go_at_call 16; refine (errNum_any _ _).mono ?_; rintro e w' ⟨rfl, rfl⟩)
    go_ret
    exact ⟨rfl, hB7.out⟩
  · have hrem2 : (IntKind.u64.wrap which).tmod 9 = 5 := hrem'
    obtain ⟨⟨⟨u, hcell⟩, hfroz⟩, hIV, hBV0⟩ := dforms_case (a := ⟨⟨#[97]⟩, 23 + (1 + (L : Int)), 1⟩) (b := ⟨⟨#[98]⟩, 0, 2⟩) 1 (.int .i64 (23 + (1 + (L : Int)))) hH2.out (by kernel_rfl) entA_fine entB_fine hB3.out hwq.out (by decide)
    have hno := hid (show dirB [(⟨⟨#[97]⟩, 23 + (1 + (L : Int)), 1⟩ : Ent), ⟨⟨#[98]⟩, 0, 2⟩] = false from dir_first (not_ref (by omega)))
    have hE := hid hIV
    have hBV := hid hBV0
    clear hIV hBV0 hrem'
    go_wp2_with fail
    refine (dirPut_any _ 2 2 _ _ _ hE.out (Nat.le_refl _) (by decide) _ _ (eputS_no hno.out)).mono ?_
    rintro e W4 ⟨rfl, h4⟩
    have hE4 := hid (hE.out.on h4)
    have hB4 := hid (hBV.out.trans (h4.mono hBV.out.size))
    clear h4 hE hBV
    go_wp2_with (first
      | ((with_reducible refine at_slot (some 100) ?_); refine wpList_run rfl (.agg #[.int .i64 0, .int .i64 1]) W4 (by kernel_rfl) ?_)
      | fail)
    refine (dirSet_any _ 2 2 _ _ ⟨⟨#[99]⟩, 0, 1⟩ W4 hE4.out (Nat.le_refl _) (by decide) (Nat.le_refl _) (fun h => by cases h) (by show (⟨#[99]⟩ : ByteArray).size ≤ maxLen; decide +kernel) _ _ (setS_no hno.out)).mono ?_
    rintro e W5 ⟨A5, c5, he, -, h5⟩
    rw [show ([] : List Ent).length = 0 from rfl] at he
    subst he
    have hE5 := hid (hE4.out.on h5)
    have hB5 := hid (hB4.out.trans (h5.mono hB4.out.size))
    clear h5 hE4 hB4
    go_wp2_with fail
    refine (dirRemove_any _ 2 2 _ _ ⟨#[97]⟩ W5 hE5.out (Nat.le_refl _) (by decide) (Nat.le_refl _) (fun h => by cases h) _ _ (removeS_no hno.out)).mono ?_
    rintro e W6 ⟨A6, c6, he, -, h6⟩
    rw [show ([] : List Ent).length = 0 from rfl] at he
    subst he
    have hE6 := hid (hE5.out.on h6)
    have hB6 := hid (hB5.out.trans (h6.mono hB5.out.size))
    clear h6 hE5 hB5
    have hM6 := hid (dirMay_any _ 2 2 _ _ W6 hE6.out (Nat.le_refl _) (by decide))
    rw [hno.out] at hM6
    go_wp2_with fail
    refine hM6.out.mono ?_
    rintro e W7 ⟨rfl, h7⟩
    have hB7 := hid (hB6.out.trans (h7.mono hB6.out.size))
    clear h7 hM6 hE6 hB6
    go_wp2_with (go_at_call 16; refine (errNum_any _ _).mono ?_; rintro e w' ⟨rfl, rfl⟩)
    go_ret
    exact ⟨rfl, hB7.out⟩
  · have hrem2 : (IntKind.u64.wrap which).tmod 9 = 6 := hrem'
    obtain ⟨⟨⟨u, hcell⟩, hfroz⟩, hIV, hBV0⟩ := dforms_case (a := ⟨⟨#[97]⟩, 0, 1⟩) (b := ⟨⟨#[98]⟩, 0, 1 - (1 + (L : Int))⟩) 5 (.int .i64 (1 - (1 + (L : Int)))) hH2.out (by kernel_rfl) entA_fine entB_fine hB3.out hwq.out (by decide)
    have hno := hid (show dirB [(⟨⟨#[97]⟩, 0, 1⟩ : Ent), ⟨⟨#[98]⟩, 0, 1 - (1 + (L : Int))⟩] = false from dir_second (not_ref (by omega)))
    have hE := hid hIV
    have hBV := hid hBV0
    clear hIV hBV0 hrem'
    go_wp2_with fail
    refine (dirPut_any _ 2 2 _ _ _ hE.out (Nat.le_refl _) (by decide) _ _ (eputS_no hno.out)).mono ?_
    rintro e W4 ⟨rfl, h4⟩
    have hE4 := hid (hE.out.on h4)
    have hB4 := hid (hBV.out.trans (h4.mono hBV.out.size))
    clear h4 hE hBV
    go_wp2_with (first
      | ((with_reducible refine at_slot (some 100) ?_); refine wpList_run rfl (.agg #[.int .i64 0, .int .i64 1]) W4 (by kernel_rfl) ?_)
      | fail)
    refine (dirSet_any _ 2 2 _ _ ⟨⟨#[99]⟩, 0, 1⟩ W4 hE4.out (Nat.le_refl _) (by decide) (Nat.le_refl _) (fun h => by cases h) (by show (⟨#[99]⟩ : ByteArray).size ≤ maxLen; decide +kernel) _ _ (setS_no hno.out)).mono ?_
    rintro e W5 ⟨A5, c5, he, -, h5⟩
    rw [show ([] : List Ent).length = 0 from rfl] at he
    subst he
    have hE5 := hid (hE4.out.on h5)
    have hB5 := hid (hB4.out.trans (h5.mono hB4.out.size))
    clear h5 hE4 hB4
    go_wp2_with fail
    refine (dirRemove_any _ 2 2 _ _ ⟨#[97]⟩ W5 hE5.out (Nat.le_refl _) (by decide) (Nat.le_refl _) (fun h => by cases h) _ _ (removeS_no hno.out)).mono ?_
    rintro e W6 ⟨A6, c6, he, -, h6⟩
    rw [show ([] : List Ent).length = 0 from rfl] at he
    subst he
    have hE6 := hid (hE5.out.on h6)
    have hB6 := hid (hB5.out.trans (h6.mono hB5.out.size))
    clear h6 hE5 hB5
    have hM6 := hid (dirMay_any _ 2 2 _ _ W6 hE6.out (Nat.le_refl _) (by decide))
    rw [hno.out] at hM6
    go_wp2_with fail
    refine hM6.out.mono ?_
    rintro e W7 ⟨rfl, h7⟩
    have hB7 := hid (hB6.out.trans (h7.mono hB6.out.size))
    clear h7 hM6 hE6 hB6
    go_wp2_with (go_at_call 16; refine (errNum_any _ _).mono ?_; rintro e w' ⟨rfl, rfl⟩)
    go_ret
    exact ⟨rfl, hB7.out⟩
  · have hrem2 : (IntKind.u64.wrap which).tmod 9 = 7 := hrem'
    obtain ⟨⟨⟨u, hcell⟩, hfroz⟩, hIV, hBV0⟩ := dforms_case (a := ⟨⟨#[97]⟩, 0, 1⟩) (b := ⟨⟨#[98]⟩, 0, 32 + (1 + (L : Int))⟩) 5 (.int .i64 (32 + (1 + (L : Int)))) hH2.out (by kernel_rfl) entA_fine entB_fine hB3.out hwq.out (by decide)
    have hno := hid (show dirB [(⟨⟨#[97]⟩, 0, 1⟩ : Ent), ⟨⟨#[98]⟩, 0, 32 + (1 + (L : Int))⟩] = false from dir_second (not_ref (by omega)))
    have hE := hid hIV
    have hBV := hid hBV0
    clear hIV hBV0 hrem'
    go_wp2_with fail
    refine (dirPut_any _ 2 2 _ _ _ hE.out (Nat.le_refl _) (by decide) _ _ (eputS_no hno.out)).mono ?_
    rintro e W4 ⟨rfl, h4⟩
    have hE4 := hid (hE.out.on h4)
    have hB4 := hid (hBV.out.trans (h4.mono hBV.out.size))
    clear h4 hE hBV
    go_wp2_with (first
      | ((with_reducible refine at_slot (some 100) ?_); refine wpList_run rfl (.agg #[.int .i64 0, .int .i64 1]) W4 (by kernel_rfl) ?_)
      | fail)
    refine (dirSet_any _ 2 2 _ _ ⟨⟨#[99]⟩, 0, 1⟩ W4 hE4.out (Nat.le_refl _) (by decide) (Nat.le_refl _) (fun h => by cases h) (by show (⟨#[99]⟩ : ByteArray).size ≤ maxLen; decide +kernel) _ _ (setS_no hno.out)).mono ?_
    rintro e W5 ⟨A5, c5, he, -, h5⟩
    rw [show ([] : List Ent).length = 0 from rfl] at he
    subst he
    have hE5 := hid (hE4.out.on h5)
    have hB5 := hid (hB4.out.trans (h5.mono hB4.out.size))
    clear h5 hE4 hB4
    go_wp2_with fail
    refine (dirRemove_any _ 2 2 _ _ ⟨#[97]⟩ W5 hE5.out (Nat.le_refl _) (by decide) (Nat.le_refl _) (fun h => by cases h) _ _ (removeS_no hno.out)).mono ?_
    rintro e W6 ⟨A6, c6, he, -, h6⟩
    rw [show ([] : List Ent).length = 0 from rfl] at he
    subst he
    have hE6 := hid (hE5.out.on h6)
    have hB6 := hid (hB5.out.trans (h6.mono hB5.out.size))
    clear h6 hE5 hB5
    have hM6 := hid (dirMay_any _ 2 2 _ _ W6 hE6.out (Nat.le_refl _) (by decide))
    rw [hno.out] at hM6
    go_wp2_with fail
    refine hM6.out.mono ?_
    rintro e W7 ⟨rfl, h7⟩
    have hB7 := hid (hB6.out.trans (h7.mono hB6.out.size))
    clear h7 hM6 hE6 hB6
    go_wp2_with (go_at_call 16; refine (errNum_any _ _).mono ?_; rintro e w' ⟨rfl, rfl⟩)
    go_ret
    exact ⟨rfl, hB7.out⟩
  · have hrem2 : (IntKind.u64.wrap which).tmod 9 = 8 := hrem'
    obtain ⟨i0, hi, hz0, hz1, hz2⟩ := info_parts Try.infoEntI
    have hl1 := IntWalk.i64_in (1 + (L : Int) + 32) (by omega)
    have hnm : 33 + L ≤ 10000000000000 := by omega
    have hno := hid (show dirB (List.replicate (33 + L) noEnt) = false from dir_long (by rw [List.length_replicate]; omega))
    go_wp2_with (first
      | ((with_reducible refine at_slot (some 31) ?_); refine wpList_make_full W2 rfl _ _ 36 rfl W2.heap.size 60 i0 _ 3 Try.underlying36 hi hz0 hz1 .i64 .i64 _ _ (33 + L) rfl rfl (by omega) (by omega) (by rw [hz2]; omega) (by unfold maxLen; omega) (Nat.le_refl _) ?_; intro Wz hown hg; have hE := hid (ents_many hown); have hBV := hid (hB3.out.grown hg hB3.out.size (fun k h => by cases h)); clear hown hg)
      | fail)
    refine (dirPut_any _ (33 + L) (33 + L) _ _ _ hE.out (Nat.le_refl _) hnm _ _ (eputS_no hno.out)).mono ?_
    rintro e W4 ⟨rfl, h4⟩
    have hE4 := hid (hE.out.on h4)
    have hB4 := hid (hBV.out.trans (h4.mono hBV.out.size))
    clear h4 hE hBV
    go_wp2_with (first
      | ((with_reducible refine at_slot (some 100) ?_); refine wpList_run rfl (.agg #[.int .i64 0, .int .i64 1]) W4 (by kernel_rfl) ?_)
      | fail)
    refine (dirSet_any _ (33 + L) (33 + L) _ _ ⟨⟨#[99]⟩, 0, 1⟩ W4 hE4.out (Nat.le_refl _) hnm (Nat.le_refl _) (fun h => by cases h) (by show (⟨#[99]⟩ : ByteArray).size ≤ maxLen; decide +kernel) _ _ (setS_no hno.out)).mono ?_
    rintro e W5 ⟨A5, c5, he, -, h5⟩
    rw [show ([] : List Ent).length = 0 from rfl] at he
    subst he
    have hE5 := hid (hE4.out.on h5)
    have hB5 := hid (hB4.out.trans (h5.mono hB4.out.size))
    clear h5 hE4 hB4
    go_wp2_with fail
    refine (dirRemove_any _ (33 + L) (33 + L) _ _ ⟨#[97]⟩ W5 hE5.out (Nat.le_refl _) hnm (Nat.le_refl _) (fun h => by cases h) _ _ (removeS_no hno.out)).mono ?_
    rintro e W6 ⟨A6, c6, he, -, h6⟩
    rw [show ([] : List Ent).length = 0 from rfl] at he
    subst he
    have hE6 := hid (hE5.out.on h6)
    have hB6 := hid (hB5.out.trans (h6.mono hB5.out.size))
    clear h6 hE5 hB5
    have hM6 := hid (dirMay_any _ (33 + L) (33 + L) _ _ W6 hE6.out (Nat.le_refl _) hnm)
    rw [hno.out] at hM6
    go_wp2_with fail
    refine hM6.out.mono ?_
    rintro e W7 ⟨rfl, h7⟩
    have hB7 := hid (hB6.out.trans (h7.mono hB6.out.size))
    clear h7 hM6 hE6 hB6
    go_wp2_with (go_at_call 16; refine (errNum_any _ _).mono ?_; rintro e w' ⟨rfl, rfl⟩)
    go_ret
    exact ⟨rfl, hB7.out⟩

end Go.Proofs.Ytapegklffglnoaa
