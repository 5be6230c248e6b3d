/- Layer 13: awake. -/
import Derived.Test.YtapegklffglnoaaDirU
namespace Go.Proofs.Ytapegklffglnoaa
open Go.RowKit

set_option maxRecDepth 100000 in
set_option maxHeartbeats 4000000 in
theorem awake13_any (w : World) : Calls Try.prog 37 #[] w fun e w' => e = .returned (.bool true) ∧ Below w.heap.size w w' := by
  obtain ⟨ih, hhi, hhz, hhs, hhb⟩ := info_parts Try.infoEntI
  obtain ⟨W1, hW1⟩ : ∃ W1, w.alloc (.cells ent1.cells.toArray 60) = W1 := ⟨_, rfl⟩
  have hs1 : W1.heap.size = w.heap.size + 1 := by rw [← hW1]; simp
  have hb1 := hid (show Below w.heap.size w W1 from by rw [← hW1]; exact (Below.refl _ _).alloc (Nat.le_refl _) _)
  have hI1 := hid (show Ents W1 W1.heap.size (some ⟨w.heap.size, 0, none⟩) 1 [ent1] from by rw [hs1, ← hW1]; exact ents_one ent1 ent1_fine)
  have hW1' := hid hW1
  clear hW1
  go_enter Try.func37, Try.ntmps37
  go_wp2_with (first
    | ((with_reducible refine at_slot (some 17) ?_); refine wpList_run rfl (.agg ent1.cells.toArray) w (by kernel_rfl) ?_)
    | ((with_reducible refine at_slot (some 18) ?_); refine wpList_buildSlice_one rfl 36 60 (.tmp 17) rfl ih _ Try.underlying36 hhi hhz ent1.cells.toArray rfl (by rw [hhs]; rfl) (by decide) (by decide) ?_; rw [hW1'.out])
    | fail)
  refine (dirPut_any _ 1 1 _ [ent1] W1 hI1.out (Nat.le_refl _) (by decide) _ 0 eput1).mono ?_
  rintro e W2 ⟨rfl, h2⟩
  have hI2 := hid (hI1.out.on h2)
  have hb2 := hid (hb1.out.trans (h2.mono hb1.out.size))
  clear h2 hI1 hb1
  go_wp2_with fail
  refine (dirGet_any _ (by decide +kernel) [ent1] 0 eget1 W2).mono ?_
  rintro e W3 ⟨A3, c3, he, hown3, hf3, h3⟩
  rw [show ([ent1] : List Ent).length = 1 from rfl] at he
  subst he
  have hG3 := hid (ents_of_own hf3 hown3)
  have hI3 := hid (hI2.out.on h3)
  have hb3 := hid (hb2.out.trans (h3.mono hb2.out.size))
  clear hown3 hf3 h3 hI2 hb2
  go_wp2_with (first
    | ((with_reducible refine at_slot (some 31) ?_); refine wpList_run rfl (.agg #[.int .i64 0, .int .i64 1]) W3 (by kernel_rfl) ?_)
    | fail)
  refine (dirSet_any _ 1 1 _ [ent1] ent2 W3 hI3.out (Nat.le_refl _) (by decide) (Nat.le_refl _) (fun h => by cases h) (by decide +kernel) _ 0 eset2).mono ?_
  rintro e W4 ⟨A4, c4, he, hown4, h4⟩
  rw [show ([ent1, ent2] : List Ent).length = 2 from rfl] at he
  subst he
  have hcap4 : 2 ≤ c4 := own_cap hown4
  obtain ⟨g4, rfl⟩ := own_head hown4 (by decide)
  have hS4 := hid (ents_of_own (fun x hx => by
    rcases List.mem_cons.1 hx with rfl | hx
    · exact ent1_fine
    · rw [List.mem_singleton.1 hx]; exact ent2_fine) hown4)
  have hG4 := hid (hG3.out.on h4)
  have hI4 := hid (hI3.out.on h4)
  have hb4 := hid (hb3.out.trans (h4.mono hb3.out.size))
  clear hown4 h4 hI3 hb3 hG3
  go_wp2_with fail
  refine (dirRemove_any _ 2 c4 _ [ent1, ent2] ⟨#[97]⟩ W4 hS4.out (Nat.le_refl _) (by decide) hcap4 (fun h => by cases h) _ true edel1).mono ?_
  rintro e W5 ⟨A5, c5, he, hown5, h5⟩
  rw [show ([ent2] : List Ent).length = 1 from rfl] at he
  subst he
  obtain ⟨g5, rfl⟩ := own_head hown5 (by decide)
  have hR5 := hid (ents_of_own (fun x hx => by rw [List.mem_singleton.1 hx]; exact ent2_fine) hown5)
  have hS5 := hid (hS4.out.on h5)
  have hG5 := hid (hG4.out.on h5)
  have hI5 := hid (hI4.out.on h5)
  have hb5 := hid (hb4.out.trans (h5.mono hb4.out.size))
  clear hown5 h5 hI4 hb4 hG4 hS4
  go_wp2_with fail
  have hF := dirFind_any _ 2 c4 _ [ent1, ent2] ⟨#[98]⟩ W5 hS5.out (Nat.le_refl _) (by decide)
  rw [efind2] at hF
  refine hF.mono ?_
  clear hF
  rintro e W6 ⟨he, h6⟩
  rw [show (some ent2).getD noEnt = ent2 from rfl, show (some ent2).isSome = true from rfl] at he
  subst he
  obtain ⟨V6, hV6, hH6, hB6, ht6, -⟩ := ref_var W6 0 1
  have hR6 := hid ((hR5.out.on h6).on hB6)
  have hG6 := hid ((hG5.out.on h6).on hB6)
  have hI6 := hid ((hI5.out.on h6).on hB6)
  have hb6 := hid ((hb5.out.trans (h6.mono hb5.out.size)).trans (hB6.mono (Nat.le_trans hb5.out.size h6.size)))
  have hH6' := hid hH6
  have hV6' := hid hV6
  have ht6' := hid ht6
  have hlt6 := hid hH6.lt
  clear h6 hI5 hb5 hG5 hS5 hR5 hB6 hH6 hV6 ht6
  go_wp2_with (first
    | ((with_reducible refine at_slot (some 10) ?_); refine wpList_run rfl (.pointer (some ⟨W6.heap.size, 0, none⟩)) (W6.alloc (.cells #[.int .i64 0, .int .i64 0] 38)) (by kernel_rfl) ?_)
    | ((with_reducible refine at_slot none ?_); refine wpList_store_mid rfl 38 (.tmp 10) (.tmp 43) rfl W6.heap.size 0 #[.int .i64 0, .int .i64 1] rfl rfl (by exact ht6'.out) (by kernel_rfl) (by kernel_rfl) ?_; rw [show (#[.int .i64 0, .int .i64 1] : Array Value).toList = [.int .i64 0, .int .i64 1] from rfl, hV6'.out])
    | ((with_reducible refine at_slot (some 47) ?_); refine wpList_run rfl (.agg #[.int .i64 0, .int .i64 1]) V6 (by kernel_rfl) ?_)
    | fail)
  refine (dirSet_any _ 1 1 _ [ent1] entX V6 hI6.out (Nat.le_refl _) (by decide) (Nat.le_refl _) (fun h => by cases h) (by decide +kernel) _ 1300 esetX).mono ?_
  rintro e W7 ⟨A7, c7, he, -, h7⟩
  rw [show ([] : List Ent).length = 0 from rfl] at he
  subst he
  have hR7 := hid (hR6.out.on h7)
  have hG7 := hid (hG6.out.on h7)
  have hI7 := hid (hI6.out.on h7)
  have hb7 := hid (hb6.out.trans (h7.mono hb6.out.size))
  have hH7 := hid (hH6'.out.below h7 hlt6.out)
  have hlt7 := hid (hH7.out.lt)
  clear h7 hR6 hG6 hI6 hb6 hH6' hV6' ht6' hlt6
  go_wp2_with fail
  refine (dirGet_any _ (by decide +kernel) [] 1300 egetD W7).mono ?_
  rintro e W8 ⟨A8, c8, he, -, -, h8⟩
  rw [show ([] : List Ent).length = 0 from rfl] at he
  subst he
  have hR8 := hid (hR7.out.on h8)
  have hG8 := hid (hG7.out.on h8)
  have hI8 := hid (hI7.out.on h8)
  have hb8 := hid (hb7.out.trans (h8.mono hb7.out.size))
  have hH8 := hid (hH7.out.below h8 hlt7.out)
  have hlt8 := hid (hH8.out.lt)
  clear h8 hR7 hG7 hI7 hb7 hH7 hlt7
  go_wp2_with (go_at_call 16; refine (errNum_any _ _).mono ?_; rintro e w' ⟨rfl, rfl⟩)
  refine (sameEnts_any A3 _ 1 c3 1 _ _ [ent1] W8 hG8.out hI8.out (Nat.le_refl _) (Nat.le_refl _) (by decide)).mono ?_
  rintro e W9 ⟨rfl, h9⟩
  have hR9 := hid (hR8.out.on h9)
  have hI9 := hid (hI8.out.on h9)
  have hb9 := hid (hb8.out.trans (h9.mono hb8.out.size))
  have hH9 := hid (hH8.out.below h9 hlt8.out)
  have c0 : W9.cell? ⟨g5, 0, none⟩ = some (.string ⟨#[98]⟩) := by
    have h := (hR9.out.at3 (k := 0) rfl).1
    exact h
  clear h9 hR8 hG8 hI8 hb8 hH8 hlt8
  have hrng := hid (hH9.out.range 0 [.int .i64 0, .int .i64 1] (fun j _ => by rw [Nat.zero_add]))
  go_wp2_with (first
    | (go_at_call 16; refine (errNum_any _ _).mono ?_; rintro e w' ⟨rfl, rfl⟩)
    | ((with_reducible refine at_slot (some 101) ?_); refine wpList_load_any_on (by kernel_rfl) 38 (.tmp 10) rfl ⟨W6.heap.size, 0, none⟩ rfl [.int .i64 0, .int .i64 1] _ (by exact fun j v hv => by rw [show (⟨W6.heap.size, 0, none⟩ : Addr).add j = ⟨W6.heap.size, j, none⟩ from by unfold Addr.add; split <;> simp_all, hH9.out.cell]; exact hv) Try.underlying38 rfl (by exact Try.infoRef) ?_)
    | ((with_reducible refine at_slot (some 102) ?_); refine wpList_run_on (by kernel_rfl) (.agg #[.int .i64 0, .int .i64 1]) W9 (by kernel_rfl) ?_)
    | ((with_reducible refine at_slot (some 103) ?_); refine wpList_ref_eql (by kernel_rfl) (.tmp 101) (.tmp 102) _ rfl 0 1 rfl rfl ?_)
    | fail)
  have hM := dirMay_any _ 1 1 _ [ent1] W9 hI9.out (Nat.le_refl _) (by decide)
  rw [dir_one (show ent1.may = true by decide +kernel)] at hM
  refine hM.mono ?_
  rintro e WA ⟨rfl, hA⟩
  have hbA := hid (hb9.out.trans (hA.mono hb9.out.size))
  clear hA hM
  go_wp2_with fail
  go_ret
  exact ⟨rfl, hbA.out⟩

end Go.Proofs.Ytapegklffglnoaa
