/- Layer 14: awake. -/
import Derived.Test.YtapegklffglnoaaItS
import Derived.Test.YtapegklffglnoaaNum0
namespace Go.Proofs.Ytapegklffglnoaa
open Go.RowKit

def ino1 : Ino := ⟨1, 0, 1, 2, 258, noHash⟩
def ino0 : Ino := ⟨0, 0, 0, 0, 0, noHash⟩
theorem ino1_fine : ino1.fine := by show ino1.root.size = 32; decide +kernel
theorem ino0_fine : ino0.fine := by show ino0.root.size = 32; decide +kernel
theorem itab_one {x : Ino} (h : x.may = true) : itabB [x] = true := itabB_yes ⟨fun y hy => by rw [List.mem_singleton.1 hy]; exact h, fun i a b hi _ _ => by simp at hi⟩
theorem itab_not {xs : List Ino} {x : Ino} (hx : x ∈ xs) (h : x.may = false) : itabB xs = false := itabB_no fun hh => by have := hh.1 x hx; rw [h] at this; cases this
theorem put1 : putS [ino1] = (tabBytes [ino1], 0) := putS_yes (itab_one (by decide))
theorem put0 : putS [ino0] = (⟨#[]⟩, 1400) := putS_no (itab_not (List.mem_singleton.2 rfl) (by decide))
theorem get1 : getS (tabBytes [ino1]) = ([ino1], 0) := getS_putS (fun x hx => by rw [List.mem_singleton.1 hx]; exact ino1_fine) (itab_one (by decide))
theorem tab1_size : (tabBytes [ino1]).size = 40 := by decide +kernel
theorem tab1_8 : (tabBytes [ino1]).extract 0 8 = ⟨#[84, 1, 1, 0, 1, 2, 1, 2]⟩ := by decide +kernel
theorem get_cut : getS ⟨#[84, 1]⟩ = ([], 1400) := by
  have e0 : rmarkS 84 ⟨#[84, 1]⟩ false = (⟨#[1]⟩, false) := by decide +kernel
  have e1 : rnumS ⟨#[1]⟩ false 1 = (1, ⟨#[]⟩, false) := by decide +kernel
  have e3 : (itemsS (1 : Int).toNat ⟨#[]⟩ false).2.2 = true := by decide +kernel
  obtain ⟨R, l, f, e2⟩ : ∃ p q r, itemsS (1 : Int).toNat ⟨#[]⟩ false = (p, q, r) := ⟨_, _, _, rfl⟩
  rw [e2] at e3
  obtain rfl : f = true := e3
  rw [getS_eq e0 e1 e2]
  rfl
theorem ino0_cells : ino0.cells.toArray = z37 := by kernel_rfl

/-- One inode in a row of its own. -/
theorem inos_one {w : World} {x : Ino} (hx : x.fine) : Inos (w.alloc (.cells x.cells.toArray 78)) (w.heap.size + 1) (some ⟨w.heap.size, 0, none⟩) 1 [x] := by
  refine ⟨rfl, fun y hy => by rw [List.mem_singleton.1 hy]; exact hx, .inr ⟨_, rfl, Nat.lt_succ_self _, fun i hi j v hv => ?_⟩⟩
  have hi0 : i = 0 := by simpa using hi
  subst hi0
  have hh := Holds.new w 78 x.cells.toArray
  rw [add_add, Nat.zero_mul, Nat.zero_add, show (⟨w.heap.size, 0, none⟩ : Addr).add j = ⟨w.heap.size, j, none⟩ from by unfold Addr.add; split <;> simp_all, hh.cell]
  exact hv

set_option maxRecDepth 100000 in
set_option maxHeartbeats 4000000 in
theorem awake14_any (w : World) : Calls Try.prog 47 #[] w fun e w' => e = .returned (.bool true) ∧ Below w.heap.size w w' := by
  obtain ⟨ih, hhi, hhz, hhs, hhb⟩ := info_parts Try.infoInoI
  obtain ⟨C1, hC1⟩ : ∃ C1, ino1.cells.toArray = C1 := ⟨_, rfl⟩
  have hC1s : C1.size = 37 := by rw [← hC1, List.size_toArray, Ino.len ino1_fine]
  have hC1' := hid hC1
  obtain ⟨T, hT⟩ : ∃ T, tabBytes [ino1] = T := ⟨_, rfl⟩
  have hTs := tab1_size
  have hT8 := tab1_8
  have hput := put1
  have hget := get1
  rw [hT] at hTs hT8 hput hget
  have hput' := hid hput
  have hget' := hid hget
  have hb1 := hid (show Below w.heap.size w (w.alloc (.cells C1 78)) from (Below.refl _ _).alloc (Nat.le_refl _) _)
  have hI1 := hid (show Inos (w.alloc (.cells C1 78)) (w.heap.size + 1) (some ⟨w.heap.size, 0, none⟩) 1 [ino1] from by rw [← hC1]; exact inos_one ino1_fine)
  clear hC1 hT hput hget
  go_enter Try.func47, Try.ntmps47
  go_wp2_with (first
    | ((with_reducible refine at_slot (some 10) ?_); refine wpList_run rfl (.agg C1) w (by rw [← hC1'.out]; kernel_rfl) ?_)
    | ((with_reducible refine at_slot (some 11) ?_); refine wpList_buildSlice_one rfl 64 78 (.tmp 10) rfl ih _ Try.underlying64 hhi hhz C1 rfl (by rw [hhs, hC1s]) (by rw [hC1s]; decide) (by rw [hC1s]; decide) ?_)
    | fail)
  refine (itabPut_any _ 1 1 (w.heap.size + 1) [ino1] _ hI1.out (by simp) (by decide) T 0 hput'.out).mono ?_
  rintro e w2 ⟨rfl, h2⟩
  have hI2 := hid (hI1.out.below (h2.mono (by simp)))
  have hb2 := hid (hb1.out.trans (h2.mono (by simp)))
  have hs2 := hid (show w.heap.size + 1 ≤ w2.heap.size from by have := h2.size; simpa using this)
  clear h2
  go_wp2_with fail
  refine (itabGet_any T [ino1] 0 hget'.out w2).mono ?_
  rintro e w3 ⟨A3, c3, he, hown3, hf3, h3⟩
  rw [show ([ino1] : List Ino).length = 1 from rfl] at he
  subst he
  have hI3 := hid (inos_of_own hf3 hown3)
  have hJ3 := hid (hI2.out.below (h3.mono hs2.out))
  have hb3 := hid (hb2.out.trans (h3.mono (by have := hs2.out; omega)))
  have hs3 := hid (Nat.le_trans hs2.out h3.size)
  clear hown3 hf3 h3
  have hI0 := hid (show Inos (w3.alloc (.cells z37 78)) (w3.heap.size + 1) (some ⟨w3.heap.size, 0, none⟩) 1 [ino0] from by rw [← ino0_cells]; exact inos_one ino0_fine)
  have hb4 := hid (show Below w3.heap.size w3 (w3.alloc (.cells z37 78)) from (Below.refl _ _).alloc (Nat.le_refl _) _)
  go_wp2_with (first
    | ((with_reducible refine at_slot (some 23) ?_); refine wpList_run rfl (.slice (some ⟨w3.heap.size, 0, none⟩) 1 1) (w3.alloc (.cells z37 78)) (by kernel_rfl) ?_)
    | fail)
  refine (itabPut_any _ 1 1 (w3.heap.size + 1) [ino0] _ hI0.out (by simp) (by decide) _ _ put0).mono ?_
  rintro e w5 ⟨rfl, h5⟩
  have hb5 := hid (hb4.out.trans (h5.mono (by simp)))
  clear h5
  go_wp2_with fail
  refine (itabGet_any ⟨#[84, 1]⟩ [] 1400 get_cut w5).mono ?_
  rintro e w6 ⟨A6, c6, he, -, -, h6⟩
  rw [show ([] : List Ino).length = 0 from rfl] at he
  subst he
  have hb6 := hid (hb5.out.trans (h6.mono hb5.out.size))
  have hI6 := hid (hI3.out.below hb6.out)
  have hJ6 := hid (hJ3.out.below (hb6.out.mono hs3.out))
  have hb7 := hid (hb3.out.trans (hb6.out.mono (by have := hs3.out; omega)))
  have hs6 := hid (Nat.le_trans hs3.out hb6.out.size)
  clear h6
  go_wp2_with (go_at_call 16; refine (errNum_any _ _).mono ?_; rintro e w' ⟨rfl, rfl⟩)
  refine (sameInos_any A3 _ 1 c3 1 _ _ [ino1] w6 hI6.out hJ6.out hb6.out.size hs6.out (by decide)).mono ?_
  rintro e w7 ⟨rfl, h7⟩
  have hb8 := hid (hb7.out.trans (h7.mono (by have := hs6.out; omega)))
  have hJ7 := hid (hJ6.out.below (h7.mono hs6.out))
  have hs7 := hid (Nat.le_trans hs6.out h7.size)
  clear h7
  go_wp2_with (go_at_call 16; refine (errNum_any _ _).mono ?_; rintro e w' ⟨rfl, rfl⟩)
  have hM := hid (itabMay_any _ 1 1 _ [ino1] w7 hJ7.out hs7.out (by decide))
  rw [itab_one (show ino1.may = true by decide)] at hM
  refine hM.out.mono ?_
  rintro e w8 ⟨rfl, h8⟩
  have hb9 := hid (hb8.out.trans (h8.mono (by have := hs7.out; omega)))
  clear h8
  go_wp2_with fail
  go_ret
  exact ⟨rfl, hb9.out⟩

end Go.Proofs.Ytapegklffglnoaa
