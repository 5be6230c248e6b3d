/- Layer 7: what every program answers that is one. -/
import Derived.Test.YtbclmkpigdeilaaDkS
namespace Go.Proofs.Ytbclmkpigdeilaa
open Go.RowKit
open Go.Lib (strCells strCells_length strCells_oneCell)

theorem dk_below {w W W' : World} {r b : Nat} (hB : Below w.heap.size w W) (hT : Turns W W' r (some b)) (h1 : w.heap.size ≤ r) (h2 : w.heap.size ≤ b) : Below w.heap.size w W' :=
  hB.trans (hT.below h1 (fun k e => by cases e; exact h2) hB.size)
theorem getD_set {α : Type} (l : List α) (a k : Nat) (x z : α) (ha : a < l.length) : (l.set a x).getD k z = if k = a then x else l.getD k z := by
  rw [List.getD_eq_getElem?_getD, List.getD_eq_getElem?_getD, List.getElem?_set]
  by_cases h : a = k
  · subst h
    rw [if_pos rfl, if_pos ha, if_pos rfl]
    rfl
  · rw [if_neg h, if_neg (fun e => h e.symm)]
def bools (fl : List Bool) : List Value := fl.map Value.bool
theorem bools_at {fl : List Bool} {k : Nat} (hk : k < fl.length) : (bools fl)[k]? = some (.bool (fl.getD k false)) := by
  unfold bools
  rw [List.getElem?_map, List.getD_eq_getElem?_getD, List.getElem?_eq_getElem hk]
  rfl
theorem bools_set (fl : List Bool) (k : Nat) (v : Bool) : (bools fl).set k (.bool v) = bools (fl.set k v) := by
  unfold bools
  rw [List.map_set]
def dkD0 : Dk := Dk.new 3
def dkD1 : Dk := dkD0.write 0 (secT 1)
def dkD2 : Dk := dkD1.write 2 (secT 2)
def dkD3 : Dk := dkD2.crash 2
theorem dkD2_old : dkD2.old.length = 2 := rfl
theorem dkD3_old : dkD3.old.length = 0 := rfl
theorem dkD3_0 : dkD3.xs.getD 0 ⟨#[]⟩ = secT 0 := rfl
theorem dkD3_2 : dkD3.xs.getD 2 ⟨#[]⟩ = secT 2 := rfl
set_option maxRecDepth 100000 in
set_option maxHeartbeats 1000000 in
theorem awake7_any (w : World) : Calls Try.prog 31 #[] w fun e w' => e = .returned (.bool true) ∧ Below w.heap.size w w' := by
  have hN3 := hid (dkNew_yes 3 (by decide) (by decide) w)
  have hN0 := hid (fun V => dkNew_no 0 (by decide) V)
  have hS := hid (fun (c : Int) V => sector_any c V)
  obtain ⟨d, hd⟩ : ∃ d, w.heap.size + 2 = d := ⟨_, rfl⟩
  obtain ⟨r, hr0⟩ : ∃ r, w.heap.size = r := ⟨_, rfl⟩
  obtain ⟨b, hb0⟩ : ∃ b, w.heap.size + 1 = b := ⟨_, rfl⟩
  have hr := hid (show w.heap.size ≤ r from by omega)
  have hb' := hid (show w.heap.size ≤ b from by omega)
  have hN3' := hid (show Calls Try.prog 29 #[.int .i64 3] w fun e w' => e = .returned (.tuple #[.pointer (some ⟨d, 0, none⟩), .int .i64 0]) ∧ DiskAt w' d r b 3 dkD0 ∧ Below w.heap.size w w' from by
    have h := hN3.out
    rw [hd, hb0] at h
    rw [show DiskAt = DiskAt from rfl] at h
    exact h.mono fun e w' h2 => ⟨h2.1, by rw [← hr0]; exact h2.2.1, h2.2.2⟩)
  have hW1 := hid (fun V (h : DiskAt V d r b 3 dkD0) => show Calls Try.prog 32 #[.pointer (some ⟨d, 0, none⟩), .int .i64 0, .string (secT 1)] V fun e w' => e = .returned (.int .i64 0) ∧ DiskAt w' d r b 3 dkD1 ∧ Turns V w' r (some b) from dkWrite_yes 0 (secT 1) (secT_size 1) d r b 3 dkD0 (by decide) V h)
  have hW2 := hid (fun V (h : DiskAt V d r b 3 dkD1) => show Calls Try.prog 32 #[.pointer (some ⟨d, 0, none⟩), .int .i64 2, .string (secT 2)] V fun e w' => e = .returned (.int .i64 0) ∧ DiskAt w' d r b 3 dkD2 ∧ Turns V w' r (some b) from dkWrite_yes 2 (secT 2) (secT_size 2) d r b 3 dkD1 (by decide) V h)
  have hDi := hid (fun V (h : DiskAt V d r b 3 dkD2) => show Calls Try.prog 40 #[.pointer (some ⟨d, 0, none⟩)] V fun e w' => e = .returned (.int .i64 2) ∧ V = w' from dkDirty_any d r b 3 dkD2 V h)
  have hCr := hid (fun V (h : DiskAt V d r b 3 dkD2) => show Calls Try.prog 38 #[.pointer (some ⟨d, 0, none⟩), .int .i64 2] V fun e w' => e = .returned (.int .i64 0) ∧ DiskAt w' d r b 3 dkD3 ∧ Turns V w' r (some b) from dkCrash_any 2 d r b 3 dkD2 V h)
  have hR0 := hid (fun V (h : DiskAt V d r b 3 dkD3) => show Calls Try.prog 34 #[.pointer (some ⟨d, 0, none⟩), .int .i64 0] V fun e w' => e = .returned (.tuple #[.string (secT 0), .int .i64 0]) ∧ V = w' from by have h2 := dkRead_yes 0 d r b 3 dkD3 (by decide) V h; rw [dkD3_0] at h2; exact h2)
  have hR2 := hid (fun V (h : DiskAt V d r b 3 dkD3) => show Calls Try.prog 34 #[.pointer (some ⟨d, 0, none⟩), .int .i64 2] V fun e w' => e = .returned (.tuple #[.string (secT 2), .int .i64 0]) ∧ V = w' from by have h2 := dkRead_yes 2 d r b 3 dkD3 (by decide) V h; rw [dkD3_2] at h2; exact h2)
  have hW3 := hid (fun V (h : DiskAt V d r b 3 dkD3) => dkWrite_no 3 (secT 1) d r b 3 dkD3 (by decide) V h)
  have hDz := hid (fun V (h : DiskAt V d r b 3 dkD3) => show Calls Try.prog 40 #[.pointer (some ⟨d, 0, none⟩)] V fun e w' => e = .returned (.int .i64 0) ∧ V = w' from dkDirty_any d r b 3 dkD3 V h)
  have hSe := hid (fun V (h : DiskAt V d r b 3 dkD3) => show Calls Try.prog 42 #[.pointer (some ⟨d, 0, none⟩)] V fun e w' => e = .returned (.int .i64 3) ∧ V = w' from dkSectors_any d r b 3 dkD3 V h)
  clear hN3 hd hr0 hb0
  go_enter Try.func31, Try.ntmps31
  go_wp2_with fail
  refine hN3'.out.mono ?_
  rintro e W1 ⟨rfl, hA, hb⟩
  have hA1 := hid hA
  have hB1 := hid hb
  clear hA hb hN3'
  try (rename_i hKK; refine hKK _ _ ?_; clear hKK)
  go_wp2_with fail
  refine (hN0.out _).mono ?_
  rintro e w' ⟨rfl, hw⟩
  obtain rfl := hw.symm
  clear hw
  try (rename_i hKK; refine hKK _ _ ?_; clear hKK)
  go_wp2_with (first
    | (go_at_call 17; refine (errNum_any _ _).mono ?_; rintro e w' ⟨rfl, rfl⟩)
    | fail)
  refine (hS.out 1 _).mono ?_
  rintro e W2 ⟨rfl, hb⟩
  have hA2 := hid (hA1.out.on hb)
  have hB2 := hid (bup hb hB1.out)
  clear hb hA1 hB1
  try (rename_i hKK; refine hKK _ _ ?_; clear hKK)
  go_wp2_with fail
  refine (hW1.out _ hA2.out).mono ?_
  rintro e W3 ⟨rfl, hA, hT⟩
  have hA3 := hid hA
  have hB3 := hid (dk_below hB2.out hT hr.out hb'.out)
  clear hA hT hA2 hB2
  try (rename_i hKK; refine hKK _ _ ?_; clear hKK)
  go_wp2_with fail
  refine (hS.out 2 _).mono ?_
  rintro e W4 ⟨rfl, hb⟩
  have hA4 := hid (hA3.out.on hb)
  have hB4 := hid (bup hb hB3.out)
  clear hb hA3 hB3
  try (rename_i hKK; refine hKK _ _ ?_; clear hKK)
  go_wp2_with fail
  refine (hW2.out _ hA4.out).mono ?_
  rintro e W5 ⟨rfl, hA, hT⟩
  have hA5 := hid hA
  have hB5 := hid (dk_below hB4.out hT hr.out hb'.out)
  clear hA hT hA4 hB4
  try (rename_i hKK; refine hKK _ _ ?_; clear hKK)
  go_wp2_with fail
  refine (hDi.out _ hA5.out).mono ?_
  rintro e w' ⟨rfl, rfl⟩
  try (rename_i hKK; refine hKK _ _ ?_; clear hKK)
  go_wp2_with fail
  refine (hCr.out _ hA5.out).mono ?_
  rintro e W6 ⟨rfl, hA, hT⟩
  have hA6 := hid hA
  have hB6 := hid (dk_below hB5.out hT hr.out hb'.out)
  clear hA hT hA5 hB5
  try (rename_i hKK; refine hKK _ _ ?_; clear hKK)
  go_wp2_with fail
  refine (hR0.out _ hA6.out).mono ?_
  rintro e w' ⟨rfl, rfl⟩
  try (rename_i hKK; refine hKK _ _ ?_; clear hKK)
  go_wp2_with fail
  refine (hR2.out _ hA6.out).mono ?_
  rintro e w' ⟨rfl, rfl⟩
  try (rename_i hKK; refine hKK _ _ ?_; clear hKK)
  go_wp2_with fail
  refine (hS.out 1 _).mono ?_
  rintro e W7 ⟨rfl, hb⟩
  have hA7 := hid (hA6.out.on hb)
  have hB7 := hid (bup hb hB6.out)
  clear hb hA6 hB6
  try (rename_i hKK; refine hKK _ _ ?_; clear hKK)
  go_wp2_with fail
  refine (hW3.out _ hA7.out).mono ?_
  rintro e w' ⟨rfl, rfl⟩
  try (rename_i hKK; refine hKK _ _ ?_; clear hKK)
  go_wp2_with (first
    | (go_at_call 17; refine (errNum_any _ _).mono ?_; rintro e w' ⟨rfl, rfl⟩)
    | fail)
  refine (hS.out 0 _).mono ?_
  rintro e W8 ⟨rfl, hb⟩
  have hA8 := hid (hA7.out.on hb)
  have hB8 := hid (bup hb hB7.out)
  clear hb hA7 hB7
  try (rename_i hKK; refine hKK _ _ ?_; clear hKK)
  go_wp2_with (first
    | (go_at_call 17; refine (errNum_any _ _).mono ?_; rintro e w' ⟨rfl, rfl⟩)
    | fail)
  refine (hS.out 2 _).mono ?_
  rintro e W9 ⟨rfl, hb⟩
  have hA9 := hid (hA8.out.on hb)
  have hB9 := hid (bup hb hB8.out)
  clear hb hA8 hB8
  try (rename_i hKK; refine hKK _ _ ?_; clear hKK)
  go_wp2_with (first
    | (go_at_call 17; refine (errNum_any _ _).mono ?_; rintro e w' ⟨rfl, rfl⟩)
    | fail)
  refine (hDz.out _ hA9.out).mono ?_
  rintro e w' ⟨rfl, rfl⟩
  try (rename_i hKK; refine hKK _ _ ?_; clear hKK)
  go_wp2_with (first
    | (go_at_call 17; refine (errNum_any _ _).mono ?_; rintro e w' ⟨rfl, rfl⟩)
    | fail)
  refine (hSe.out _ hA9.out).mono ?_
  rintro e w' ⟨rfl, rfl⟩
  try (rename_i hKK; refine hKK _ _ ?_; clear hKK)
  go_wp2_with fail
  go_ret
  exact ⟨rfl, hB9.out⟩


end Go.Proofs.Ytbclmkpigdeilaa
