/- Layer 13: With, Without.
   Layer 13: Without, Set, Remove.
   Layer 13: Find. -/
import Derived.Test.YtapegklffglnoaaDirPl
import Derived.Test.YtapegklffglnoaaDirC
namespace Go.Proofs.Ytapegklffglnoaa
open Go.RowKit

theorem entCells_each (xs : List Ent) : ∀ u ∈ entCells xs, u.oneCell' = true := fun u hu => by
  obtain ⟨x, _, hx⟩ := List.mem_flatMap.1 hu
  exact x.ones u hx
theorem entCells_append (xs ys : List Ent) : entCells (xs ++ ys) = entCells xs ++ entCells ys := by simp [entCells]
theorem entCells_len (xs : List Ent) : (entCells xs).length = xs.length * 3 := by
  induction xs with
  | nil => rfl
  | cons x xs ih =>
    show (x.cells ++ entCells xs).length = _
    rw [List.length_append, ih, Ent.len, List.length_cons]
    omega
theorem entCells_take : ∀ (xs : List Ent) (k : Nat), (entCells xs).take (k * 3) = entCells (xs.take k)
  | [], k => by simp [entCells]
  | x :: xs, 0 => by simp [entCells]
  | x :: xs, k + 1 => by
    have ih := entCells_take xs k
    show (x.cells ++ entCells xs).take _ = x.cells ++ entCells (xs.take k)
    rw [show (k + 1) * 3 = x.cells.length + k * 3 from by rw [Ent.len]; omega, List.take_length_add_append, ih]
theorem entCells_drop : ∀ (xs : List Ent) (k : Nat), (entCells xs).drop (k * 3) = entCells (xs.drop k)
  | [], k => by simp [entCells]
  | x :: xs, 0 => by simp [entCells]
  | x :: xs, k + 1 => by
    have ih := entCells_drop xs k
    show (x.cells ++ entCells xs).drop _ = entCells (xs.drop k)
    rw [show (k + 1) * 3 = x.cells.length + k * 3 from by rw [Ent.len]; omega, List.drop_length_add_append, ih]
theorem Ents.at_cells {w : World} {B n : Nat} {A : Option Addr} {xs : List Ent} (h : Ents w B A n xs) : At w B 3 A n (entCells xs) := by
  obtain ⟨h1, h2, h3⟩ := h
  refine ⟨by rw [entCells_len, h1], ?_⟩
  rcases h3 with h0 | ⟨p, hA, hB, hc⟩
  · exact .inl h0
  · refine .inr ⟨p, hA, hB, fun j hj => ?_⟩
    rw [entCells_len] at hj
    have hi : j / 3 < xs.length := by omega
    have hr : j % 3 < (xs[j / 3]).cells.length := by rw [Ent.len]; omega
    have h4 := hc (j / 3) hi (j % 3) _ (List.getElem?_eq_getElem hr)
    rw [add_add, show j / 3 * 3 + j % 3 = j from by omega] at h4
    rw [h4]
    have h5 := entCells_at h2 (j / 3) hi (j % 3) _ (List.getElem?_eq_getElem hr)
    rw [show j / 3 * 3 + j % 3 = j from by omega] at h5
    obtain ⟨h6, h7⟩ := List.getElem?_eq_some_iff.1 h5
    rw [h7]

/-- A new list of entries that a call answers. -/
def NewEnts (R : List Ent) (w : World) (v : Value) (w' : World) : Prop := ∃ A c, v = .slice A R.length c ∧ w'.ownsRow w.heap.size 60 3 (.slice A R.length c) R.length (entCells R) ∧ Below w.heap.size w w'
def WithPost (R : List Ent) (w : World) (e : Ending) (w' : World) : Prop := ∃ v, e = .returned v ∧ NewEnts R w v w'

theorem fromA_nil {A : Option Addr} {c k sz : Nat} (h : A = none → c = 0) : fromA A c k sz = none → c - k = 0 := by
  unfold fromA
  split
  · intro _; omega
  · intro e
    cases A with
    | none => have := h rfl; omega
    | some p => cases e

theorem at_of_holds {w : World} {g B sz n : Nat} {t : TypeId} {cs : List Value} (h : Holds w g t cs) (hl : cs.length = n * sz) (hB : g < B) : At w B sz (some ⟨g, 0, none⟩) n cs := by
  refine ⟨hl, .inr ⟨_, rfl, hB, fun j hj => ?_⟩⟩
  rw [show (⟨g, 0, none⟩ : Addr).add j = ⟨g, j, none⟩ from by unfold Addr.add; split <;> simp_all, h.cell]
  exact List.getElem?_eq_getElem hj

set_option maxRecDepth 100000 in
set_option maxHeartbeats 6000000 in
theorem withE_any (A : Option Addr) (n c B : Nat) (xs : List Ent) (x : Ent) (w : World) (h : Ents w B A n xs) (hB : B ≤ w.heap.size) (hn : n ≤ 900) (hc : n ≤ c) (hnil : A = none → c = 0) (hr : RisesE xs.length xs) :
    Calls Try.prog 72 #[.slice A n c, .func (.func 73) #[] #[], .agg x.cells.toArray] w (WithPost (withE xs x) w) := by
  obtain ⟨i0, hi, hz0, hz1, hz2⟩ := info_parts Try.infoEntI
  obtain ⟨R, hR⟩ : ∃ R, withE xs x = R := ⟨_, rfl⟩
  obtain ⟨q, hq⟩ : ∃ q, w.heap.size = q := ⟨_, rfl⟩
  obtain ⟨W1, hW1⟩ : ∃ W1, w.alloc (.cells x.cells.toArray 60) = W1 := ⟨_, rfl⟩
  have hB1 : Below w.heap.size w W1 := by rw [← hW1]; exact (Below.refl _ _).alloc (Nat.le_refl _) _
  have hH : Holds W1 q 60 x.cells := by rw [← hW1, ← hq]; exact Holds.new _ _ _
  have hi1 : (Try.prog.info? 60).map (·.size) = some x.cells.length := by rw [Ent.len]; exact Try.infoEnt
  have hlen := h.1
  obtain ⟨L, hL⟩ : ∃ L, lowE xs x.name = L := ⟨_, rfl⟩
  have hLn : L ≤ n := by rw [← hL, ← hlen]; exact low_le _ _
  obtain ⟨F, hF⟩ : ∃ F, hasE xs x.name = F := ⟨_, rfl⟩
  have hplace := hid (fun (W : World) (hW : Below w.heap.size w W) => placeE_any A n c B xs x.name W (h.below (hW.mono hB)) (Nat.le_trans hB hW.size) (by omega) hr)
  rw [hL, hF] at hplace
  have hFn : F = true → L + 1 ≤ n := by
    intro e
    rw [← hF] at e
    unfold hasE at e
    rw [hL] at e
    cases hx : xs[L]? with
    | none => rw [hx] at e; cases e
    | some y => have := (List.getElem?_eq_some_iff.1 hx).1; omega
  obtain ⟨M, hK⟩ : ∃ M, L + (if F then 1 else 0) = M := ⟨_, rfl⟩
  have hKn : M ≤ n := by
    rw [← hK]
    cases F with
    | true => exact hFn rfl
    | false => exact hLn
  have hRs : R = xs.take L ++ [x] ++ xs.drop M := by
    rw [← hR, ← hK, ← hL, ← hF]
    rfl
  have hRl : R.length = L + (1 + (n - M)) := by
    rw [hRs, List.length_append, List.length_append, List.length_take, List.length_drop, List.length_singleton]
    omega
  have hat := h.at_cells
  have hpart := hid (fun (W : World) (hW : Below w.heap.size w W) (D : Nat) (hD : w.heap.size ≤ D) => show (⟨A, L, c, (entCells xs).take (L * 3)⟩ : Part).at_ W D ∧ (⟨fromA A c M 3, n - M, c - M, (entCells xs).drop (M * 3)⟩ : Part).at_ W D from
    ⟨⟨((hat.front hLn).below (hW.mono hB)).more (Nat.le_trans hB hD), hnil, by show L ≤ 1000; omega, fun u hu => entCells_each xs u (List.mem_of_mem_take hu)⟩,
     ⟨((hat.from_ hKn hc).below (hW.mono hB)).more (Nat.le_trans hB hD), fromA_nil hnil, by show n - M ≤ 1000; omega, fun u hu => entCells_each xs u (List.mem_of_mem_drop hu)⟩⟩)
  have hcells := hid (show ∀ g1, cellsP [⟨A, L, c, (entCells xs).take (L * 3)⟩, ⟨some ⟨g1, 0, none⟩, 1, 1, x.cells⟩, ⟨fromA A c M 3, n - M, c - M, (entCells xs).drop (M * 3)⟩] = entCells R from fun g1 => by
    rw [hRs, entCells_append, entCells_append, ← entCells_take, ← entCells_drop]
    simp [cellsP, entCells])
  have hsum := hid (show ∀ g1, sumP [⟨A, L, c, (entCells xs).take (L * 3)⟩, ⟨some ⟨g1, 0, none⟩, 1, 1, x.cells⟩, ⟨fromA A c M 3, n - M, c - M, (entCells xs).drop (M * 3)⟩] = R.length from fun g1 => by
    rw [hRl]
    simp [sumP])
  have hR' := hid hR
  have hW1' := hid hW1
  have hB1' := hid hB1
  have hH' := hid hH
  have hK' := hid hK
  have hq' := hid hq
  have hrng := hid (hold_range hH)
  have l1 : (0 : Int) ≤ (L : Int) := by omega
  have l2 : (L : Int) ≤ (c : Int) := by omega
  have l3 := IntWalk.i64_in ((L : Int) + 1) (by omega)
  have hone : ∀ u ∈ x.cells, u.oneCell' = true := x.ones
  have hone' := hid hone
  have hKL := hid (show F = true → (L : Int) + 1 = (M : Int) from fun e => by rw [← hK, e, if_pos rfl]; omega)
  have hKM := hid (show F = false → L = M from fun e => by rw [← hK, e]; rfl)
  rw [hR]
  clear hR hW1 hB1 hH hK hL hF hFn hRs hRl hat h hr hq hone
  go_enter Try.func72, Try.ntmps72
  go_wp2_with (first
    | ((with_reducible refine at_slot (some 5) ?_); refine wpList_run rfl (.pointer (some ⟨w.heap.size, 0, none⟩)) (w.alloc (.cells x.cells.toArray 60)) (by kernel_rfl) ?_; rw [hW1'.out, hq'.out])
    | ((with_reducible refine at_slot (some 14) ?_); refine wpList_load_mid rfl 60 (.tmp 5) rfl q 0 rfl x.cells _ (by exact hrng.out) Try.underlying60 rfl (by exact hi1) ?_)
    | fail)
  refine (nameOf_any x _).mono ?_
  rintro e W2 ⟨rfl, hb2⟩
  have hB2 := hid (hB1'.out.trans (hb2.mono hB1'.out.size))
  have hH2 := hid (hH'.out.below hb2 hH'.out.lt)
  clear hb2
  go_wp2_with fail
  refine (hplace.out W2 hB2.out).mono ?_
  rintro e W3 ⟨rfl, hb3⟩
  have hB3 := hid (hB2.out.trans (hb3.mono hB2.out.size))
  have hH3 := hid (hH2.out.below hb3 hH2.out.lt)
  clear hb3 hplace
  cases F with
  | false =>
    obtain rfl := hKM.out rfl
    clear hKL hKM
    go_wp2_with (first
      | ((with_reducible refine at_slot (some 21) ?_); refine wpList_sliceLo rfl 36 60 i0 (.tmp 19) (.tmp 20) rfl A n c L 3 rfl rfl hLn hc Try.underlying36 hi hz1 ?_)
      | fail)
    refine wp_region_held_drew (S := fun W => Holds W q 60 x.cells) (by kernel_rfl) (by exact hH3.out.below (below_drew1 W3) hH3.out.lt) (fun hHeld => ?_)
    refine wpAnyH_take (i := 0) (v := .slice A n c) rfl (by kernel_rfl) (by kernel_rfl) (by kernel_rfl) (fun _ _ _ h => h) (yieldsIf_move _ rfl rfl rfl) hHeld ?_
    simp only [ly1, ly2, ly3, Act.put, ly5, ly6, ly7]
    refine wpAnyH_take (i := 1) (v := .int .i64 (L : Int)) rfl (by kernel_rfl) (by kernel_rfl) (by kernel_rfl) (fun _ _ _ h => h) (yieldsIf_move _ rfl rfl rfl) hHeld ?_
    simp only [ly1, ly2, ly3, Act.put, ly5, ly6, ly7]
    refine wpAnyH_take (i := 2) (v := .slice A L c) rfl (by kernel_rfl) (by kernel_rfl) (by kernel_rfl) (fun _ _ _ h => h) (.inl ⟨by kernel_rfl, fun w _ => by go_simp⟩) hHeld ?_
    simp only [ly1, ly2, ly3, Act.put, ly5, ly6, ly7]
    refine wpAnyH_take (i := 3) (v := .agg x.cells.toArray) rfl (by kernel_rfl) (by kernel_rfl) (by kernel_rfl) (fun _ _ _ h => h) (yieldsIf_load_any (by kernel_rfl) _ _ rfl ⟨q, 0, none⟩ rfl x.cells _ (fun w hw j v hv => by rw [show (⟨q, 0, none⟩ : Addr).add j = ⟨q, j, none⟩ from by unfold Addr.add; split <;> simp_all]; exact (Holds.cell hw j).trans hv) Try.underlying60 rfl hi1) hHeld ?_
    simp only [ly1, ly2, ly3, Act.put, ly5, ly6, ly7]
    refine wpAnyH_take (i := 5) (v := .slice (fromA A c L 3) (n - L) (c - L)) rfl (by kernel_rfl) (by kernel_rfl) (by kernel_rfl) (fun _ _ _ h => h) (yieldsIf_move _ rfl rfl rfl) hHeld ?_
    simp only [ly1, ly2, ly3, Act.put, ly5, ly6, ly7]
    refine wpAnyH_ready (rs := [4]) (by kernel_rfl) (by simp) (AllReadyH.cons rfl (fun K hK => ?_) AllReadyH.nil)
    have hK' := hid hK
    clear hK
    rw [if_pos (by kernel_rfl)]
    simp only [ly1, ly2, ly3]
    obtain ⟨g1, hg1⟩ : ∃ g1, W3.drew.heap.size = g1 := ⟨_, rfl⟩
    obtain ⟨W4, hW4⟩ : ∃ W4, W3.drew.alloc (.cells x.cells.toArray 60) = W4 := ⟨_, rfl⟩
    have hb4 : Below W3.drew.heap.size W3.drew W4 := by rw [← hW4]; exact (Below.refl _ _).alloc (Nat.le_refl _) _
    have hG1 : Holds W4 g1 60 x.cells := by rw [← hW4, ← hg1]; exact Holds.new _ _ _
    have hH4 : Holds W4 q 60 x.cells := hHeld.below hb4 hHeld.lt
    have hB4 := hid (hB3.out.drew.trans (hb4.mono hB3.out.size))
    refine wp_buildOne 36 60 (.tmp 30) rfl i0 _ Try.underlying36 hi hz0 x.cells.toArray rfl (by rw [hz1, List.size_toArray, Ent.len]) (by rw [List.size_toArray, Ent.len]; decide) (by rw [List.size_toArray, Ent.len]; decide) ?_
    rw [hW4, hg1]
    have hG1' := hid hG1
    clear hG1 hb4 hW4
    refine hK'.out _ _ (by exact hH4) (fun hHeld => ?_)
    clear hK' K
    refine wpAnyH_ready (rs := [6]) (by kernel_rfl) (by simp) (AllReadyH.cons rfl (fun K hK => ?_) AllReadyH.nil)
    have hK' := hid hK
    clear hK
    rw [if_pos (by kernel_rfl)]
    simp only [ly1, ly2, ly3]
    obtain ⟨g2, hg2⟩ : ∃ g2, W4.heap.size = g2 := ⟨_, rfl⟩
    obtain ⟨W5, hW5⟩ : ∃ W5, W4.alloc (.cells #[.slice A L c, .slice (some ⟨g1, 0, none⟩) 1 1, .slice (fromA A c L 3) (n - L) (c - L)] 36) = W5 := ⟨_, rfl⟩
    have hb5 : Below W4.heap.size W4 W5 := by rw [← hW5]; exact (Below.refl _ _).alloc (Nat.le_refl _) _
    have hG2 : Holds W5 g2 36 [.slice A L c, .slice (some ⟨g1, 0, none⟩) 1 1, .slice (fromA A c L 3) (n - L) (c - L)] := by rw [← hW5, ← hg2]; exact Holds.new _ _ _
    have hH5 : Holds W5 q 60 x.cells := hHeld.below hb5 hHeld.lt
    have hG1b := hid (hG1'.out.below hb5 hG1'.out.lt)
    have hB5 := hid (hB4.out.trans (hb5.mono hB4.out.size))
    refine wp_run' (.slice (some ⟨W4.heap.size, 0, none⟩) 3 3) (W4.alloc (.cells #[.slice A L c, .slice (some ⟨g1, 0, none⟩) 1 1, .slice (fromA A c L 3) (n - L) (c - L)] 36)) (by kernel_rfl) ?_
    rw [hW5, hg2]
    have hG2' := hid hG2
    clear hG2 hb5 hW5
    refine hK'.out _ _ (by exact hH5) (fun hHeld => ?_)
    clear hK' K
    refine wpAnyH_ready (rs := [7]) (by kernel_rfl) (by simp) (AllReadyH.cons rfl (fun K hK => ?_) AllReadyH.nil)
    have hK' := hid hK
    clear hK
    rw [if_pos (by kernel_rfl)]
    simp only [ly1, ly2, ly3]
    go_simp
    obtain ⟨p1, p2⟩ := hpart.out W5 hB5.out W5.heap.size hB5.out.size
    have hat1 : (⟨some ⟨g1, 0, none⟩, 1, 1, x.cells⟩ : Part).at_ W5 W5.heap.size := ⟨at_of_holds hG1b.out rfl hG1b.out.lt, (fun e => by cases e), (show 1 ≤ 1000 by decide), hone'.out⟩
    refine (concatE_any g2 3 [⟨A, L, c, (entCells xs).take (L * 3)⟩, ⟨some ⟨g1, 0, none⟩, 1, 1, x.cells⟩, ⟨fromA A c L 3, n - L, c - L, (entCells xs).drop (L * 3)⟩] W5 hG2'.out rfl (by decide) (fun y hy => by
      rcases List.mem_cons.1 hy with rfl | hy
      · exact p1
      · rcases List.mem_cons.1 hy with rfl | hy
        · exact hat1
        · rw [List.mem_singleton.1 hy]; exact p2)).mono ?_
    rintro e W6 ⟨A6, c6, rfl, hrow, hb6⟩
    rw [hsum.out, hcells.out] at hrow
    rw [hsum.out]
    have hrow' := hid hrow
    have hB6 := hid (hB5.out.trans (hb6.mono hB5.out.size))
    have hH6 : Holds W6 q 60 x.cells := hHeld.below hb6 hHeld.lt
    clear hrow hb6 p1 p2 hat1
    refine hK'.out _ _ (by exact hH6) (fun hHeld => ?_)
    clear hK' K
    refine wpAnyH_take (i := 8) (v := .slice A6 R.length c6) rfl (by kernel_rfl) (by kernel_rfl) (by kernel_rfl) (fun _ _ _ h => h) (yieldsIf_assign _ rfl rfl rfl) hHeld ?_
    simp only [ly1, ly2, ly3, Act.put, ly5, ly6, ly7]
    refine wpAnyH_done (by kernel_rfl) ?_ _
    go_wp2_with fail
    go_ret
    exact ⟨_, rfl, A6, c6, rfl, own_less hrow'.out hB5.out.size, hB6.out⟩
  | true =>
    have hLK := hKL.out rfl
    have l4 : (M : Int) ≤ (n : Int) := by omega
    clear hKL hKM
    go_wp2_with (first
      | ((with_reducible refine at_slot (some 21) ?_); refine wpList_sliceLo rfl 36 60 i0 (.tmp 19) (.tmp 20) rfl A n c L 3 rfl rfl hLn hc Try.underlying36 hi hz1 ?_)
      | ((with_reducible refine at_slot (some 26) ?_); refine wpList_sliceLo rfl 36 60 i0 (.tmp 23) (.tmp 25) rfl A n c M 3 rfl rfl hKn hc Try.underlying36 hi hz1 ?_)
      | fail)
    refine wp_region_held_drew (S := fun W => Holds W q 60 x.cells) (by kernel_rfl) (by exact hH3.out.below (below_drew1 W3) hH3.out.lt) (fun hHeld => ?_)
    refine wpAnyH_take (i := 0) (v := .slice A n c) rfl (by kernel_rfl) (by kernel_rfl) (by kernel_rfl) (fun _ _ _ h => h) (yieldsIf_move _ rfl rfl rfl) hHeld ?_
    simp only [ly1, ly2, ly3, Act.put, ly5, ly6, ly7]
    refine wpAnyH_take (i := 1) (v := .int .i64 (L : Int)) rfl (by kernel_rfl) (by kernel_rfl) (by kernel_rfl) (fun _ _ _ h => h) (yieldsIf_move _ rfl rfl rfl) hHeld ?_
    simp only [ly1, ly2, ly3, Act.put, ly5, ly6, ly7]
    refine wpAnyH_take (i := 2) (v := .slice A L c) rfl (by kernel_rfl) (by kernel_rfl) (by kernel_rfl) (fun _ _ _ h => h) (.inl ⟨by kernel_rfl, fun w _ => by go_simp⟩) hHeld ?_
    simp only [ly1, ly2, ly3, Act.put, ly5, ly6, ly7]
    refine wpAnyH_take (i := 3) (v := .agg x.cells.toArray) rfl (by kernel_rfl) (by kernel_rfl) (by kernel_rfl) (fun _ _ _ h => h) (yieldsIf_load_any (by kernel_rfl) _ _ rfl ⟨q, 0, none⟩ rfl x.cells _ (fun w hw j v hv => by rw [show (⟨q, 0, none⟩ : Addr).add j = ⟨q, j, none⟩ from by unfold Addr.add; split <;> simp_all]; exact (Holds.cell hw j).trans hv) Try.underlying60 rfl hi1) hHeld ?_
    simp only [ly1, ly2, ly3, Act.put, ly5, ly6, ly7]
    refine wpAnyH_take (i := 5) (v := .slice (fromA A c M 3) (n - M) (c - M)) rfl (by kernel_rfl) (by kernel_rfl) (by kernel_rfl) (fun _ _ _ h => h) (yieldsIf_move _ rfl rfl rfl) hHeld ?_
    simp only [ly1, ly2, ly3, Act.put, ly5, ly6, ly7]
    refine wpAnyH_ready (rs := [4]) (by kernel_rfl) (by simp) (AllReadyH.cons rfl (fun K hK => ?_) AllReadyH.nil)
    have hK' := hid hK
    clear hK
    rw [if_pos (by kernel_rfl)]
    simp only [ly1, ly2, ly3]
    obtain ⟨g1, hg1⟩ : ∃ g1, W3.drew.heap.size = g1 := ⟨_, rfl⟩
    obtain ⟨W4, hW4⟩ : ∃ W4, W3.drew.alloc (.cells x.cells.toArray 60) = W4 := ⟨_, rfl⟩
    have hb4 : Below W3.drew.heap.size W3.drew W4 := by rw [← hW4]; exact (Below.refl _ _).alloc (Nat.le_refl _) _
    have hG1 : Holds W4 g1 60 x.cells := by rw [← hW4, ← hg1]; exact Holds.new _ _ _
    have hH4 : Holds W4 q 60 x.cells := hHeld.below hb4 hHeld.lt
    have hB4 := hid (hB3.out.drew.trans (hb4.mono hB3.out.size))
    refine wp_buildOne 36 60 (.tmp 30) rfl i0 _ Try.underlying36 hi hz0 x.cells.toArray rfl (by rw [hz1, List.size_toArray, Ent.len]) (by rw [List.size_toArray, Ent.len]; decide) (by rw [List.size_toArray, Ent.len]; decide) ?_
    rw [hW4, hg1]
    have hG1' := hid hG1
    clear hG1 hb4 hW4
    refine hK'.out _ _ (by exact hH4) (fun hHeld => ?_)
    clear hK' K
    refine wpAnyH_ready (rs := [6]) (by kernel_rfl) (by simp) (AllReadyH.cons rfl (fun K hK => ?_) AllReadyH.nil)
    have hK' := hid hK
    clear hK
    rw [if_pos (by kernel_rfl)]
    simp only [ly1, ly2, ly3]
    obtain ⟨g2, hg2⟩ : ∃ g2, W4.heap.size = g2 := ⟨_, rfl⟩
    obtain ⟨W5, hW5⟩ : ∃ W5, W4.alloc (.cells #[.slice A L c, .slice (some ⟨g1, 0, none⟩) 1 1, .slice (fromA A c M 3) (n - M) (c - M)] 36) = W5 := ⟨_, rfl⟩
    have hb5 : Below W4.heap.size W4 W5 := by rw [← hW5]; exact (Below.refl _ _).alloc (Nat.le_refl _) _
    have hG2 : Holds W5 g2 36 [.slice A L c, .slice (some ⟨g1, 0, none⟩) 1 1, .slice (fromA A c M 3) (n - M) (c - M)] := by rw [← hW5, ← hg2]; exact Holds.new _ _ _
    have hH5 : Holds W5 q 60 x.cells := hHeld.below hb5 hHeld.lt
    have hG1b := hid (hG1'.out.below hb5 hG1'.out.lt)
    have hB5 := hid (hB4.out.trans (hb5.mono hB4.out.size))
    refine wp_run' (.slice (some ⟨W4.heap.size, 0, none⟩) 3 3) (W4.alloc (.cells #[.slice A L c, .slice (some ⟨g1, 0, none⟩) 1 1, .slice (fromA A c M 3) (n - M) (c - M)] 36)) (by kernel_rfl) ?_
    rw [hW5, hg2]
    have hG2' := hid hG2
    clear hG2 hb5 hW5
    refine hK'.out _ _ (by exact hH5) (fun hHeld => ?_)
    clear hK' K
    refine wpAnyH_ready (rs := [7]) (by kernel_rfl) (by simp) (AllReadyH.cons rfl (fun K hK => ?_) AllReadyH.nil)
    have hK' := hid hK
    clear hK
    rw [if_pos (by kernel_rfl)]
    simp only [ly1, ly2, ly3]
    go_simp
    obtain ⟨p1, p2⟩ := hpart.out W5 hB5.out W5.heap.size hB5.out.size
    have hat1 : (⟨some ⟨g1, 0, none⟩, 1, 1, x.cells⟩ : Part).at_ W5 W5.heap.size := ⟨at_of_holds hG1b.out rfl hG1b.out.lt, (fun e => by cases e), (show 1 ≤ 1000 by decide), hone'.out⟩
    refine (concatE_any g2 3 [⟨A, L, c, (entCells xs).take (L * 3)⟩, ⟨some ⟨g1, 0, none⟩, 1, 1, x.cells⟩, ⟨fromA A c M 3, n - M, c - M, (entCells xs).drop (M * 3)⟩] W5 hG2'.out rfl (by decide) (fun y hy => by
      rcases List.mem_cons.1 hy with rfl | hy
      · exact p1
      · rcases List.mem_cons.1 hy with rfl | hy
        · exact hat1
        · rw [List.mem_singleton.1 hy]; exact p2)).mono ?_
    rintro e W6 ⟨A6, c6, rfl, hrow, hb6⟩
    rw [hsum.out, hcells.out] at hrow
    rw [hsum.out]
    have hrow' := hid hrow
    have hB6 := hid (hB5.out.trans (hb6.mono hB5.out.size))
    have hH6 : Holds W6 q 60 x.cells := hHeld.below hb6 hHeld.lt
    clear hrow hb6 p1 p2 hat1
    refine hK'.out _ _ (by exact hH6) (fun hHeld => ?_)
    clear hK' K
    refine wpAnyH_take (i := 8) (v := .slice A6 R.length c6) rfl (by kernel_rfl) (by kernel_rfl) (by kernel_rfl) (fun _ _ _ h => h) (yieldsIf_assign _ rfl rfl rfl) hHeld ?_
    simp only [ly1, ly2, ly3, Act.put, ly5, ly6, ly7]
    refine wpAnyH_done (by kernel_rfl) ?_ _
    go_wp2_with fail
    go_ret
    exact ⟨_, rfl, A6, c6, rfl, own_less hrow'.out hB5.out.size, hB6.out⟩

end Go.Proofs.Ytapegklffglnoaa
namespace Go.Proofs.Ytapegklffglnoaa
open Go.RowKit

def DelPost (R : List Ent) (f : Bool) (w : World) (e : Ending) (w' : World) : Prop :=
  ∃ A c, e = .returned (.tuple #[.slice A R.length c, .bool f]) ∧ w'.ownsRow w.heap.size 60 3 (.slice A R.length c) R.length (entCells R) ∧ Below w.heap.size w w'
theorem DelPost.nil {w w' : World} (hb : Below w.heap.size w w') : DelPost [] false w (.returned (.tuple #[.slice none 0 0, .bool false])) w' := ⟨none, 0, rfl, World.ownsRow_nil _ _ _ _, hb⟩

set_option maxRecDepth 100000 in
set_option maxHeartbeats 6000000 in
theorem withoutE_any (A : Option Addr) (n c B : Nat) (xs : List Ent) (k : ByteArray) (w : World) (h : Ents w B A n xs) (hB : B ≤ w.heap.size) (hn : n ≤ 900) (hc : n ≤ c) (hnil : A = none → c = 0) (hr : RisesE xs.length xs) (R : List Ent) (F : Bool) (hF : hasE xs k = F) (hR : R = if F then withoutE xs k else []) :
    Calls Try.prog 75 #[.slice A n c, .func (.func 73) #[] #[], .string k] w (DelPost R F w) := by
  obtain ⟨i0, hi, hz0, hz1, hz2⟩ := info_parts Try.infoEntI
  have hlen := h.1
  obtain ⟨L, hL⟩ : ∃ L, lowE xs k = L := ⟨_, rfl⟩
  have hLn : L ≤ n := by rw [← hL, ← hlen]; exact low_le _ _
  have hplace := hid (placeE_any A n c B xs k w h hB (by omega) hr)
  rw [hL, hF] at hplace
  have hFn : F = true → L + 1 ≤ n := by
    intro e
    rw [← hF] at e
    unfold hasE at e
    rw [hL] at e
    cases hx : xs[L]? with
    | none => rw [hx] at e; cases e
    | some y => have := (List.getElem?_eq_some_iff.1 hx).1; omega
  cases F with
  | false =>
    obtain rfl : R = [] := hR
    clear hL hF hFn h hr
    go_enter Try.func75, Try.ntmps75
    go_wp2_with fail
    refine hplace.out.mono ?_
    rintro e W3 ⟨rfl, hb3⟩
    have hB3 := hid hb3
    clear hb3 hplace
    go_wp2_with fail
    go_ret2
    exact DelPost.nil hB3.out
  | true =>
    obtain ⟨M, hM⟩ : ∃ M, L + 1 = M := ⟨_, rfl⟩
    have hMn : M ≤ n := by rw [← hM]; exact hFn rfl
    have hRs : R = xs.take L ++ xs.drop M := by rw [hR, ← hM, ← hL]; rfl
    have hRl : R.length = L + (n - M) := by
      rw [hRs, List.length_append, List.length_take, List.length_drop]
      omega
    have hat := h.at_cells
    have hpart := hid (fun (W : World) (hW : Below w.heap.size w W) (D : Nat) (hD : w.heap.size ≤ D) => show (⟨A, L, c, (entCells xs).take (L * 3)⟩ : Part).at_ W D ∧ (⟨fromA A c M 3, n - M, c - M, (entCells xs).drop (M * 3)⟩ : Part).at_ W D from
      ⟨⟨((hat.front hLn).below (hW.mono hB)).more (Nat.le_trans hB hD), hnil, by show L ≤ 1000; omega, fun u hu => entCells_each xs u (List.mem_of_mem_take hu)⟩,
       ⟨((hat.from_ hMn hc).below (hW.mono hB)).more (Nat.le_trans hB hD), fromA_nil hnil, by show n - M ≤ 1000; omega, fun u hu => entCells_each xs u (List.mem_of_mem_drop hu)⟩⟩)
    have hcells := hid (show cellsP [⟨A, L, c, (entCells xs).take (L * 3)⟩, ⟨fromA A c M 3, n - M, c - M, (entCells xs).drop (M * 3)⟩] = entCells R from by
      rw [hRs, entCells_append, ← entCells_take, ← entCells_drop]
      simp [cellsP])
    have hsum := hid (show sumP [⟨A, L, c, (entCells xs).take (L * 3)⟩, ⟨fromA A c M 3, n - M, c - M, (entCells xs).drop (M * 3)⟩] = R.length from by
      rw [hRl]
      simp [sumP])
    have l1 : (0 : Int) ≤ (L : Int) := by omega
    have l2 : (L : Int) ≤ (c : Int) := by omega
    have l3 := IntWalk.i64_in ((L : Int) + 1) (by omega)
    have l4 : (L : Int) + 1 = (M : Int) := by omega
    have l5 := IntWalk.i64_in (M : Int) (by omega)
    have l4' := hid l4
    clear hL hF hFn h hr hR hRs hRl hat hM l4
    go_enter Try.func75, Try.ntmps75
    go_wp2_with fail
    refine hplace.out.mono ?_
    rintro e W3 ⟨rfl, hb3⟩
    have hB3 := hid hb3
    clear hb3 hplace
    go_wp2_with fail
    have l4 := l4'.out
    refine wp_region_held_drew (S := fun _ => True) (by kernel_rfl) (by exact trivial) (fun hHeld => ?_)
    refine wpAnyH_take (i := 0) (v := .slice A n c) rfl (by kernel_rfl) (by kernel_rfl) (by kernel_rfl) (fun _ _ _ h => h) (yieldsIf_move _ rfl rfl rfl) hHeld ?_
    simp only [ly1, ly2, ly3, Act.put, ly5, ly6, ly7]
    refine wpAnyH_take (i := 1) (v := .int .i64 (L : Int)) rfl (by kernel_rfl) (by kernel_rfl) (by kernel_rfl) (fun _ _ _ h => h) (yieldsIf_move _ rfl rfl rfl) hHeld ?_
    simp only [ly1, ly2, ly3, Act.put, ly5, ly6, ly7]
    refine wpAnyH_take (i := 2) (v := .slice A L c) rfl (by kernel_rfl) (by kernel_rfl) (by kernel_rfl) (fun _ _ _ h => h) (.inl ⟨by kernel_rfl, fun w _ => by go_simp⟩) hHeld ?_
    simp only [ly1, ly2, ly3, Act.put, ly5, ly6, ly7]
    refine wpAnyH_take (i := 3) (v := .slice A n c) rfl (by kernel_rfl) (by kernel_rfl) (by kernel_rfl) (fun _ _ _ h => h) (yieldsIf_move _ rfl rfl rfl) hHeld ?_
    simp only [ly1, ly2, ly3, Act.put, ly5, ly6, ly7]
    refine wpAnyH_take (i := 4) (v := .int .i64 (L : Int)) rfl (by kernel_rfl) (by kernel_rfl) (by kernel_rfl) (fun _ _ _ h => h) (yieldsIf_move _ rfl rfl rfl) hHeld ?_
    simp only [ly1, ly2, ly3, Act.put, ly5, ly6, ly7]
    refine wpAnyH_take (i := 5) (v := .int .i64 (M : Int)) rfl (by kernel_rfl) (by kernel_rfl) (by kernel_rfl) (fun _ _ _ h => h) (.inl ⟨by kernel_rfl, fun w _ => by go_simp⟩) hHeld ?_
    simp only [ly1, ly2, ly3, Act.put, ly5, ly6, ly7]
    refine wpAnyH_take (i := 6) (v := .slice (fromA A c M 3) (n - M) (c - M)) rfl (by kernel_rfl) (by kernel_rfl) (by kernel_rfl) (fun _ _ _ h => h) (yieldsIf_sliceLo rfl 36 60 i0 (.tmp 22) (.tmp 24) rfl A n c M 3 rfl rfl hMn hc Try.underlying36 hi hz1) hHeld ?_
    simp only [ly1, ly2, ly3, Act.put, ly5, ly6, ly7]
    refine wpAnyH_ready (rs := [7]) (by kernel_rfl) (by simp) (AllReadyH.cons rfl (fun K hK => ?_) AllReadyH.nil)
    have hK' := hid hK
    clear hK
    rw [if_pos (by kernel_rfl)]
    simp only [ly1, ly2, ly3]
    obtain ⟨g2, hg2⟩ : ∃ g2, W3.drew.heap.size = g2 := ⟨_, rfl⟩
    obtain ⟨W5, hW5⟩ : ∃ W5, W3.drew.alloc (.cells #[.slice A L c, .slice (fromA A c M 3) (n - M) (c - M)] 36) = W5 := ⟨_, rfl⟩
    have hb5 : Below W3.drew.heap.size W3.drew W5 := by rw [← hW5]; exact (Below.refl _ _).alloc (Nat.le_refl _) _
    have hG2 : Holds W5 g2 36 [.slice A L c, .slice (fromA A c M 3) (n - M) (c - M)] := by rw [← hW5, ← hg2]; exact Holds.new _ _ _
    have hB5 := hid (hB3.out.drew.trans (hb5.mono hB3.out.size))
    refine wp_run' (.slice (some ⟨W3.drew.heap.size, 0, none⟩) 2 2) (W3.drew.alloc (.cells #[.slice A L c, .slice (fromA A c M 3) (n - M) (c - M)] 36)) (by kernel_rfl) ?_
    rw [hW5, hg2]
    have hG2' := hid hG2
    clear hG2 hb5 hW5
    refine hK'.out _ _ (by exact trivial) (fun hHeld => ?_)
    clear hK' K
    refine wpAnyH_ready (rs := [8]) (by kernel_rfl) (by simp) (AllReadyH.cons rfl (fun K hK => ?_) AllReadyH.nil)
    have hK' := hid hK
    clear hK
    rw [if_pos (by kernel_rfl)]
    simp only [ly1, ly2, ly3]
    go_simp
    obtain ⟨p1, p2⟩ := hpart.out W5 hB5.out W5.heap.size hB5.out.size
    refine (concatE_any g2 2 [⟨A, L, c, (entCells xs).take (L * 3)⟩, ⟨fromA A c M 3, n - M, c - M, (entCells xs).drop (M * 3)⟩] W5 hG2'.out rfl (by decide) (fun y hy => by
      rcases List.mem_cons.1 hy with rfl | hy
      · exact p1
      · rw [List.mem_singleton.1 hy]; exact p2)).mono ?_
    rintro e W6 ⟨A6, c6, rfl, hrow, hb6⟩
    rw [hsum.out, hcells.out] at hrow
    rw [hsum.out]
    have hrow' := hid hrow
    have hB6 := hid (hB5.out.trans (hb6.mono hB5.out.size))
    clear hrow hb6 p1 p2
    refine hK'.out _ _ (by exact trivial) (fun hHeld => ?_)
    clear hK' K
    refine wpAnyH_take (i := 9) (v := .slice A6 R.length c6) rfl (by kernel_rfl) (by kernel_rfl) (by kernel_rfl) (fun _ _ _ h => h) (yieldsIf_assign _ rfl rfl rfl) hHeld ?_
    simp only [ly1, ly2, ly3, Act.put, ly5, ly6, ly7]
    refine wpAnyH_take (i := 10) (v := .bool true) rfl (by kernel_rfl) (by kernel_rfl) (by kernel_rfl) (fun _ _ _ h => h) (yieldsIf_assign _ rfl rfl rfl) hHeld ?_
    simp only [ly1, ly2, ly3, Act.put, ly5, ly6, ly7]
    refine wpAnyH_done (by kernel_rfl) ?_ _
    go_wp2_with fail
    go_ret2
    exact ⟨A6, c6, rfl, own_less hrow'.out hB5.out.size, hB6.out⟩

/-- What Set, Remove answer. -/
noncomputable def setS (xs : List Ent) (x : Ent) : List Ent × Int := if dirB xs && x.may && decide ((withE xs x).length ≤ 32) then (withE xs x, 0) else ([], 1300)
noncomputable def removeS (xs : List Ent) (k : ByteArray) : List Ent × Bool := if dirB xs && hasE xs k then (withoutE xs k, true) else ([], false)

def SetPost (R : List Ent) (x : Int) (w : World) (e : Ending) (w' : World) : Prop :=
  ∃ A c, e = .returned (.tuple #[.slice A R.length c, .int .i64 x]) ∧ w'.ownsRow w.heap.size 60 3 (.slice A R.length c) R.length (entCells R) ∧ Below w.heap.size w w'
theorem SetPost.nil {w w' : World} (hb : Below w.heap.size w w') : SetPost [] 1300 w (.returned (.tuple #[.slice none 0 0, .int .i64 1300])) w' := ⟨none, 0, rfl, World.ownsRow_nil _ _ _ _, hb⟩

set_option maxRecDepth 100000 in
set_option maxHeartbeats 4000000 in
theorem dirRemove_any (A : Option Addr) (n c B : Nat) (xs : List Ent) (k : ByteArray) (w : World) (h : Ents w B A n xs) (hB : B ≤ w.heap.size) (hn : n ≤ 10000000000000) (hc : n ≤ c) (hnil : A = none → c = 0) (R : List Ent) (F : Bool) (hs : removeS xs k = (R, F)) :
    Calls Try.prog 28 #[.slice A n c, .string k] w (DelPost R F w) := by
  have hM := hid (dirMay_any A n c B xs w h hB hn)
  have h' := hid h
  have hlen := h.1
  cases hd : dirB xs with
  | false =>
    rw [hd] at hM
    unfold removeS at hs
    rw [hd, Bool.false_and, if_neg (by decide)] at hs
    obtain ⟨rfl, rfl⟩ := Prod.mk.inj hs
    clear hd hs h
    go_enter Try.func28, Try.ntmps28
    go_wp2_with fail
    refine hM.out.mono ?_
    rintro e W1 ⟨rfl, hb1⟩
    have hB1 := hid hb1
    clear hb1
    go_wp2_with fail
    go_ret2
    exact DelPost.nil hB1.out
  | true =>
    rw [hd] at hM
    unfold removeS at hs
    rw [hd, Bool.true_and] at hs
    have hD := dirB_of hd
    obtain ⟨F0, hF0⟩ : ∃ F0, hasE xs k = F0 := ⟨_, rfl⟩
    rw [hF0] at hs
    obtain ⟨hFF, hRR⟩ : F0 = F ∧ R = if F0 then withoutE xs k else [] := by
      cases F0 with
      | false =>
        rw [if_neg (by decide)] at hs
        obtain ⟨a, b⟩ := Prod.mk.inj hs
        exact ⟨b, a.symm⟩
      | true =>
        rw [if_pos rfl] at hs
        obtain ⟨a, b⟩ := Prod.mk.inj hs
        exact ⟨b, a.symm⟩
    subst hFF
    have hW := hid (fun (W : World) (hW : Below w.heap.size w W) => withoutE_any A n c B xs k W (h.below (hW.mono hB)) (Nat.le_trans hB hW.size) (by have := hD.1; omega) hc hnil hD.2.2 R F0 hF0 hRR)
    clear hd hs h hD hF0 hRR
    go_enter Try.func28, Try.ntmps28
    go_wp2_with fail
    refine hM.out.mono ?_
    rintro e W1 ⟨rfl, hb1⟩
    have hB1 := hid hb1
    clear hb1
    go_wp2_with fail
    refine (hW.out W1 hB1.out).mono ?_
    rintro e W2 ⟨A2, c2, rfl, hrow, hb2⟩
    have hB2 := hid (hB1.out.trans (hb2.mono hB1.out.size))
    have hrow' := hid (own_less hrow hB1.out.size)
    clear hb2 hrow hW
    go_wp2_with fail
    go_ret2
    exact ⟨A2, c2, rfl, hrow'.out, hB2.out⟩

set_option maxRecDepth 100000 in
set_option maxHeartbeats 4000000 in
theorem dirSet_any (A : Option Addr) (n c B : Nat) (xs : List Ent) (x : Ent) (w : World) (h : Ents w B A n xs) (hB : B ≤ w.heap.size) (hn : n ≤ 10000000000000) (hc : n ≤ c) (hnil : A = none → c = 0) (hx : x.name.size ≤ maxLen) (R : List Ent) (y : Int) (hs : setS xs x = (R, y)) :
    Calls Try.prog 26 #[.slice A n c, .string x.name, .agg #[.int .i64 x.owner, .int .i64 x.num]] w (SetPost R y w) := by
  obtain ⟨q, hq⟩ : ∃ q, w.heap.size = q := ⟨_, rfl⟩
  obtain ⟨W0, hW0⟩ : ∃ W0, w.alloc (.cells #[.int .i64 x.owner, .int .i64 x.num] 38) = W0 := ⟨_, rfl⟩
  have hB0 : Below w.heap.size w W0 := by rw [← hW0]; exact (Below.refl _ _).alloc (Nat.le_refl _) _
  have hH0 : Holds W0 q 38 [.int .i64 x.owner, .int .i64 x.num] := by rw [← hW0, ← hq]; exact Holds.new _ _ _
  have hlen := h.1
  have hcl := hid (fun (W : World) (hW : Below W0.heap.size W0 W) => show W.cell? ⟨q, 0, none⟩ = some (.int .i64 x.owner) ∧ W.cell? ⟨q, 1, none⟩ = some (.int .i64 x.num) from by
    have hH := hH0.below hW hH0.lt
    refine ⟨?_, ?_⟩ <;> rw [hH.cell] <;> rfl)
  have hMay := hid (fun (W : World) (hW : Below w.heap.size w W) => dirMay_any A n c B xs W (h.below (hW.mono hB)) (Nat.le_trans hB hW.size) hn)
  have hName := hid (fun W => dirNameMay_any x.name W hx)
  have hRef := hid (fun W => refMay_any x.owner x.num W)
  obtain ⟨d, hd⟩ : ∃ d, dirB xs = d := ⟨_, rfl⟩
  obtain ⟨m, hm⟩ : ∃ m, Pth.nameOk x.name.data.toList = m := ⟨_, rfl⟩
  obtain ⟨r, hr⟩ : ∃ r, refB x.owner x.num = r := ⟨_, rfl⟩
  obtain ⟨Z, hZ⟩ : ∃ Z, withE xs x = Z := ⟨_, rfl⟩
  have hs2 : (if d && (m && r) && decide (Z.length ≤ 32) then (Z, (0 : Int)) else ([], 1300)) = (R, y) := by
    rw [← hs, ← hd, ← hm, ← hr, ← hZ]
    rfl
  have hW := hid (fun (hdt : d = true) (W : World) (hW : Below w.heap.size w W) => by
    have hD := dirB_of (hd.trans hdt)
    exact withE_any A n c B xs x W (h.below (hW.mono hB)) (Nat.le_trans hB hW.size) (by have := hD.1; omega) hc hnil hD.2.2)
  rw [hd] at hMay
  rw [hm] at hName
  rw [hr] at hRef
  rw [hZ] at hW
  have hZ33 := hid (show d = true → Z.length ≤ 33 from fun hdt => by
    have hD := dirB_of (hd.trans hdt)
    have hl := low_le xs x.name
    rw [← hZ]
    unfold withE
    rw [List.length_append, List.length_append, List.length_take, List.length_drop, List.length_singleton]
    have := hD.1
    omega)
  have hs' := hid hs2
  have hB0' := hid hB0
  have hW0' := hid hW0
  have hq' := hid hq
  obtain ⟨c0, c1⟩ := hcl.out W0 (Below.refl _ _)
  clear hs hs2 hd hm hr hZ hB0 hH0 hW0 hq h
  go_enter Try.func26, Try.ntmps26
  go_wp2_with (first
    | ((with_reducible refine at_slot (some 5) ?_); refine wpList_run rfl (.pointer (some ⟨w.heap.size, 0, none⟩)) (w.alloc (.cells #[.int .i64 x.owner, .int .i64 x.num] 38)) (by kernel_rfl) ?_; rw [hW0'.out, hq'.out])
    | fail)
  refine (hMay.out W0 hB0'.out).mono ?_
  rintro e W1 ⟨rfl, hb1⟩
  have hC1 := hid hb1
  have hB1 := hid (hB0'.out.trans (hb1.mono hB0'.out.size))
  clear hb1 c0 c1
  cases d with
  | false =>
    obtain ⟨rfl, rfl⟩ := Prod.mk.inj (show (([] : List Ent), (1300 : Int)) = (R, y) from hs'.out)
    go_wp2_with fail
    go_ret2
    exact SetPost.nil hB1.out
  | true =>
    go_wp2_with fail
    refine (hName.out W1).mono ?_
    rintro e W2 ⟨rfl, hb2⟩
    have hC2 := hid (hC1.out.trans (hb2.mono hC1.out.size))
    have hB2 := hid (hB1.out.trans (hb2.mono hB1.out.size))
    clear hb2
    cases m with
    | false =>
      obtain ⟨rfl, rfl⟩ := Prod.mk.inj (show (([] : List Ent), (1300 : Int)) = (R, y) from hs'.out)
      go_wp2_with fail
      go_ret2
      exact SetPost.nil hB2.out
    | true =>
      obtain ⟨c0, c1⟩ := hcl.out W2 hC2.out
      go_wp2_with fail
      refine (hRef.out W2).mono ?_
      rintro e W3 ⟨rfl, hb3⟩
      have hC3 := hid (hC2.out.trans (hb3.mono hC2.out.size))
      have hB3 := hid (hB2.out.trans (hb3.mono hB2.out.size))
      clear hb3 c0 c1
      cases r with
      | false =>
        obtain ⟨rfl, rfl⟩ := Prod.mk.inj (show (([] : List Ent), (1300 : Int)) = (R, y) from hs'.out)
        go_wp2_with fail
        go_ret2
        exact SetPost.nil hB3.out
      | true =>
        obtain ⟨c0, c1⟩ := hcl.out W3 hC3.out
        have hs3 : (if decide (Z.length ≤ 32) then (Z, (0 : Int)) else ([], 1300)) = (R, y) := hs'.out
        have hs3' := hid hs3
        clear hs3
        go_wp2_with fail
        refine (hW.out (by first | rfl | trivial) W3 hB3.out).mono ?_
        rintro e W4 ⟨v, rfl, A4, c4, rfl, hrow, hb4⟩
        have hB4 := hid (hB3.out.trans (hb4.mono hB3.out.size))
        have hrow' := hid (own_less hrow hB3.out.size)
        clear hb4 hrow c0 c1
        by_cases hz : 32 < Z.length
        · have hz' : (32 : Int) < (Z.length : Int) := by omega
          have hs4 := hs3'.out
          rw [decide_eq_false (by omega), if_neg (by decide)] at hs4
          obtain ⟨rfl, rfl⟩ := Prod.mk.inj hs4
          clear hs4
          go_wp2_with fail
          go_ret2
          exact SetPost.nil hB4.out
        · have hz' : ¬ (32 : Int) < (Z.length : Int) := by omega
          have hs4 := hs3'.out
          rw [decide_eq_true (by omega), if_pos rfl] at hs4
          obtain ⟨rfl, rfl⟩ := Prod.mk.inj hs4
          clear hs4
          go_wp2_with fail
          go_ret2
          exact ⟨A4, c4, rfl, hrow'.out, hB4.out⟩

end Go.Proofs.Ytapegklffglnoaa
namespace Go.Proofs.Ytapegklffglnoaa
open Go.RowKit

/-- The first entry of a name. -/
def findE (xs : List Ent) (k : ByteArray) : Option Ent := xs.find? fun x => x.name.toList == k.toList
def noEnt : Ent := ⟨ByteArray.empty, 0, 0⟩
theorem find_next {xs : List Ent} {k : ByteArray} {j : Nat} {x : Ent} (h : ∀ t y, t < j → xs[t]? = some y → (y.name.toList == k.toList) = false) (hx : xs[j]? = some x) (hk : (x.name.toList == k.toList) = true) : findE xs k = some x := by
  unfold findE
  induction xs generalizing j with
  | nil => simp at hx
  | cons z xs ih =>
    cases j with
    | zero =>
      have e : z = x := by simpa using hx
      subst e
      rw [List.find?_cons, hk]
    | succ j =>
      rw [List.find?_cons, h 0 z (by omega) rfl]
      exact ih (j := j) (fun t y ht hy => h (t + 1) y (by omega) (by simpa using hy)) (by simpa using hx)
theorem find_none {xs : List Ent} {k : ByteArray} (h : ∀ t y, t < xs.length → xs[t]? = some y → (y.name.toList == k.toList) = false) : findE xs k = none := by
  unfold findE
  rw [List.find?_eq_none]
  intro y hy
  obtain ⟨t, ht⟩ := List.getElem?_of_mem hy
  rw [h t y (List.getElem?_eq_some_iff.1 ht).1 ht]
  decide
def FirstPost (r : Option Ent) (w : World) (e : Ending) (w' : World) : Prop := e = .returned (.tuple #[.agg (r.getD noEnt).cells.toArray, .bool r.isSome]) ∧ Below w.heap.size w w'

theorem first_results (tmps : Array Value) (w : World) (b : Nat) (cs : Array Value) (k : Bool) (hp : tmps.getD 6 undef = .pointer (some ⟨b, 0, none⟩)) (hk : tmps.getD 7 undef = .bool k)
    (hg : w.heap[b]? = some (.cells cs 60 (0, 0))) (hl : cs.size = 3) : (results Try.f76 tmps).run Try.prog w = .ok (.tuple #[.agg cs, .bool k]) w := by
  have hp' : tmps[6]?.getD undef = .pointer (some ⟨b, 0, none⟩) := by simpa using hp
  have hk' : tmps[7]?.getD undef = .bool k := by simpa using hk
  have hlv := run_loadVar_row (P := Try.prog) w b 60 60 cs (0, 0) _ hg Try.underlying60 rfl (by rw [Try.infoEnt, hl])
  simp [results, Try.results76, hp', hk', asAddr, hlv]

set_option maxRecDepth 100000 in
set_option maxHeartbeats 4000000 in
theorem firstE_any (A : Option Addr) (n c B : Nat) (xs : List Ent) (k : ByteArray) (w : World) (h : Ents w B A n xs) (hB : B ≤ w.heap.size) (hn : n ≤ 10000000000000) :
    Calls Try.prog 76 #[.slice A n c, .func (.func 73) #[] #[], .string k] w (FirstPost (findE xs k) w) := by
  obtain ⟨R, hR⟩ : ∃ R, findE xs k = R := ⟨_, rfl⟩
  rw [hR]
  have hR' := hid hR
  have h' := hid h
  have hlen := h.1
  obtain ⟨q, hq⟩ : ∃ q, w.heap.size = q := ⟨_, rfl⟩
  obtain ⟨W0, hW0⟩ : ∃ W0, w.alloc (.cells z3 60) = W0 := ⟨_, rfl⟩
  have hH0 : Holds W0 q 60 z3.toList := by rw [← hW0, ← hq]; exact Holds.new _ _ _
  have hB0 : Below w.heap.size w W0 := by rw [← hW0]; exact (Below.refl _ _).alloc (Nat.le_refl _) _
  have hH0' := hid hH0
  have hB0' := hid hB0
  have hW0' := hid hW0
  have hq' := hid hq
  clear hR h hH0 hB0 hW0 hq
  go_enter Try.func76, Try.ntmps76
  go_wp2_with (first
    | ((with_reducible refine at_slot (some 6) ?_); refine wpList_run rfl (.pointer (some ⟨w.heap.size, 0, none⟩)) (w.alloc (.cells z3 60)) (by kernel_rfl) ?_; rw [hW0'.out, hq'.out])
    | fail)
  go_loopw [13] (fun i wr => ∃ j : Nat, j ≤ n ∧ i = .int .i64 (j : Int) ∧ Below w.heap.size w wr ∧ Holds wr q 60 z3.toList ∧ ∀ t y, t < j → xs[t]? = some y → (y.name.toList == k.toList) = false) (fun i _ => n - (intOf i).toNat)
  case atStart => exact ⟨0, Nat.zero_le _, rfl, hB0'.out, hH0'.out, fun t y ht _ => by omega⟩
  case round =>
    obtain ⟨j, hj, rfl, hBr, hHr, hno⟩ := hrel
    have hno' := hid hno
    have hBr' := hid hBr
    have hHr' := hid hHr
    clear hno hHr
    by_cases hlt : j < n
    · obtain ⟨p, a, hpA, hpB, ha, hfa, hca⟩ := (h'.out.below (hBr.mono hB)).get (k := j) hlt
      subst hpA
      have hlt' : (j : Int) < (n : Int) := by omega
      have hi1 : (Try.prog.info? 60).map (·.size) = some a.cells.length := by rw [Ent.len]; exact Try.infoEnt
      have hca' := hid hca
      have ha' := hid ha
      have hth := ent_there wr a
      have hsz := ent_size a
      have hone := a.one
      clear hBr hca ha
      go_wp2_with (first
        | ((with_reducible refine at_slot (some 16) ?_); refine wpList_load_any rfl _ _ rfl _ rfl _ _ (by exact hca'.out) Try.underlying60 rfl hi1 ?_)
        | ((with_reducible refine at_slot (some 9) ?_); refine wpList_run rfl (.pointer (some ⟨wr.heap.size, 0, none⟩)) (wr.alloc (.cells z3 60)) (by kernel_rfl) ?_)
        | ((with_reducible refine at_slot none ?_); refine wpList_store_mid rfl 60 (.tmp 9) (.tmp 16) rfl wr.heap.size 0 a.cells.toArray rfl rfl (by exact hth) (by exact hsz) (by exact hone) ?_; obtain ⟨W1, hW1⟩ : ∃ W1, (wr.alloc (.cells z3 60)).setCells wr.heap.size 0 a.cells = W1 := ⟨_, rfl⟩; obtain ⟨hv, hb1⟩ := ent_var hW1; rw [hW1]; have hvr := hold_range hv; have hv' := hid hv; have hB1 := hid (hBr'.out.trans (hb1.mono hBr'.out.size)); have hH1 := hid (hHr'.out.below hb1 hHr'.out.lt); clear hW1 hv hb1)
        | ((with_reducible refine at_slot (some 18) ?_); refine wpList_load_mid rfl 60 (.tmp 9) rfl wr.heap.size 0 rfl a.cells _ (by exact hvr) Try.underlying60 rfl (by exact hi1) ?_)
        | fail)
      refine (nameOf_any a _).mono ?_
      rintro e W2 ⟨rfl, hb2⟩
      have hB2 := hid (hB1.out.trans (hb2.mono hB1.out.size))
      have hH2 := hid (hH1.out.below hb2 hH1.out.lt)
      have hv2 := hid (hold_range (hv'.out.below hb2 hv'.out.lt))
      clear hb2 hvr
      cases hk : a.name.toList == k.toList with
      | false =>
        have hno2 := hid (show ∀ t y, t < j + 1 → xs[t]? = some y → (y.name.toList == k.toList) = false from fun t y ht hy => by
          by_cases e : t < j
          · exact hno'.out t y e hy
          · have e1 : t = j := by omega
            subst e1
            rw [ha'.out] at hy
            rw [← Option.some.inj hy]
            exact hk)
        go_wp2_with fail
        go_roundw
        case rel => exact ⟨j + 1, by omega, by go_num, hB2.out, hH2.out, hno2.out⟩
        case measure => simp [intOf]; omega
      | true =>
        have hfin := hid (show R = some a from by rw [← hR'.out]; exact find_next hno'.out ha'.out hk)
        obtain ⟨W3, hW3⟩ : ∃ W3, W2.setCells q 0 a.cells = W3 := ⟨_, rfl⟩
        have hH3 : Holds W3 q 60 a.cells := by
          rw [← hW3]
          have h1 := hH2.out.put 0 a.cells (by rw [Ent.len]; decide)
          rwa [put_all _ _ (by rw [Ent.len]; decide)] at h1
        have hB3 : Below w.heap.size w W3 := by rw [← hW3]; exact below_setCells hB2.out _ _ _ (by rw [hq'.out]; exact Nat.le_refl _)
        have hth2 := hid (hH2.out.there 0 a.cells.toArray.size (by rw [List.size_toArray, Ent.len]; decide))
        have hH3' := hid hH3
        have hB3' := hid hB3
        have hW3' := hid hW3
        clear hH3 hB3 hW3
        go_wp2_with (first
          | ((with_reducible refine at_slot (some 22) ?_); refine wpList_load_mid rfl 60 (.tmp 9) rfl wr.heap.size 0 rfl a.cells _ (by exact hv2.out) Try.underlying60 rfl (by exact hi1) ?_)
          | ((with_reducible refine at_slot none ?_); refine wpList_store_mid rfl 60 (.tmp 6) (.tmp 22) rfl q 0 a.cells.toArray rfl rfl (by exact hth2.out) (by exact hsz) (by exact hone) ?_; rw [hW3'.out])
          | fail)
        exact bodyPost_ret (v := .tuple #[.agg a.cells.toArray, .bool true]) (first_results _ _ q a.cells.toArray true rfl rfl hH3'.out rfl) rfl ⟨by rw [hfin.out]; rfl, hB3'.out⟩
    · have hlt' : ¬ (j : Int) < (n : Int) := by omega
      have hfin := hid (show R = none from by rw [← hR'.out]; exact find_none fun t y ht hy => hno'.out t y (by omega) hy)
      obtain ⟨W3, hW3⟩ : ∃ W3, (wr.alloc (.cells z3 60)).setCells q 0 z3.toList = W3 := ⟨_, rfl⟩
      have hb1 : Below wr.heap.size wr (wr.alloc (.cells z3 60)) := (Below.refl _ _).alloc (Nat.le_refl _) _
      have hHa := hHr'.out.below hb1 hHr'.out.lt
      have hH3 : Holds W3 q 60 z3.toList := by
        rw [← hW3]
        have h1 := hHa.put 0 z3.toList (by decide)
        rwa [put_all _ _ (by decide)] at h1
      have hB3 : Below w.heap.size w W3 := by rw [← hW3]; exact below_setCells (hBr'.out.trans (hb1.mono hBr'.out.size)) _ _ _ (by rw [hq'.out]; exact Nat.le_refl _)
      have hth2 := hid (hHa.there 0 z3.size (by decide))
      have hzone : z3.all (·.oneCell') = true := by simp [z3, Value.oneCell']
      have hzsz : (Try.prog.info? 60).map (·.size) = some z3.size := Try.infoEnt
      have hzr := hid (hold_range (Holds.new wr 60 z3))
      have hH3' := hid hH3
      have hB3' := hid hB3
      have hW3' := hid hW3
      clear hH3 hB3 hW3 hb1 hHa hBr
      go_wp2_with (first
        | ((with_reducible refine at_slot (some 10) ?_); refine wpList_run rfl (.pointer (some ⟨wr.heap.size, 0, none⟩)) (wr.alloc (.cells z3 60)) (by kernel_rfl) ?_)
        | ((with_reducible refine at_slot (some 24) ?_); refine wpList_load_mid rfl 60 (.tmp 10) rfl wr.heap.size 0 rfl z3.toList _ (by exact hzr.out) Try.underlying60 rfl (by exact Try.infoEnt) ?_)
        | ((with_reducible refine at_slot none ?_); refine wpList_store_mid rfl 60 (.tmp 6) (.tmp 24) rfl q 0 z3 rfl rfl (by exact hth2.out) (by exact hzsz) (by exact hzone) ?_; rw [hW3'.out])
        | fail)
      exact bodyPost_ret (v := .tuple #[.agg z3, .bool false]) (first_results _ _ q z3 false rfl rfl hH3'.out rfl) rfl ⟨by rw [hfin.out]; rfl, hB3'.out⟩

theorem find_results (tmps : Array Value) (w : World) (b : Nat) (cs : Array Value) (k : Bool) (hp : tmps.getD 4 undef = .pointer (some ⟨b, 0, none⟩)) (hk : tmps.getD 5 undef = .bool k)
    (hg : w.heap[b]? = some (.cells cs 38 (0, 0))) (hl : cs.size = 2) : (results Try.f30 tmps).run Try.prog w = .ok (.tuple #[.agg cs, .bool k]) w := by
  have hp' : tmps[4]?.getD undef = .pointer (some ⟨b, 0, none⟩) := by simpa using hp
  have hk' : tmps[5]?.getD undef = .bool k := by simpa using hk
  have hlv := run_loadVar_row (P := Try.prog) w b 38 38 cs (0, 0) _ hg Try.underlying38 rfl (by rw [show (Try.prog.info? 38).map (·.size) = some 2 from by kernel_rfl, hl])
  simp [results, Try.results30, hp', hk', asAddr, hlv]

/-- What Find answers. -/
def FindPost (r : Option Ent) (w : World) (e : Ending) (w' : World) : Prop := e = .returned (.tuple #[.agg #[.int .i64 (r.getD noEnt).owner, .int .i64 (r.getD noEnt).num], .bool r.isSome]) ∧ Below w.heap.size w w'

set_option maxRecDepth 100000 in
set_option maxHeartbeats 4000000 in
theorem dirFind_any (A : Option Addr) (n c B : Nat) (xs : List Ent) (k : ByteArray) (w : World) (h : Ents w B A n xs) (hB : B ≤ w.heap.size) (hn : n ≤ 10000000000000) :
    Calls Try.prog 30 #[.slice A n c, .string k] w (FindPost (findE xs k) w) := by
  obtain ⟨R, hR⟩ : ∃ R, findE xs k = R := ⟨_, rfl⟩
  obtain ⟨x, hx⟩ : ∃ x, R.getD noEnt = x := ⟨_, rfl⟩
  obtain ⟨f, hf⟩ : ∃ f, R.isSome = f := ⟨_, rfl⟩
  obtain ⟨q, hq⟩ : ∃ q, w.heap.size = q := ⟨_, rfl⟩
  obtain ⟨W0, hW0⟩ : ∃ W0, w.alloc (.cells #[.int .i64 0, .int .i64 0] 38) = W0 := ⟨_, rfl⟩
  have hH0 : Holds W0 q 38 [.int .i64 0, .int .i64 0] := by rw [← hW0, ← hq]; exact Holds.new _ _ _
  have hB0 : Below w.heap.size w W0 := by rw [← hW0]; exact (Below.refl _ _).alloc (Nat.le_refl _) _
  have hF := hid (firstE_any A n c B xs k W0 (h.below (hB0.mono hB)) (Nat.le_trans hB hB0.size) hn)
  rw [hR] at hF
  rw [hR]
  unfold FindPost
  rw [hx, hf]
  have hx' := hid hx
  have hf' := hid hf
  have hH0' := hid hH0
  have hB0' := hid hB0
  have hW0' := hid hW0
  have hq' := hid hq
  clear hR h hH0 hB0 hW0 hq hx hf
  go_enter Try.func30, Try.ntmps30
  go_wp2_with (first
    | ((with_reducible refine at_slot (some 4) ?_); refine wpList_run rfl (.pointer (some ⟨w.heap.size, 0, none⟩)) (w.alloc (.cells #[.int .i64 0, .int .i64 0] 38)) (by kernel_rfl) ?_; rw [hW0'.out, hq'.out])
    | fail)
  refine hF.out.mono ?_
  unfold FirstPost
  rw [hx'.out, hf'.out]
  rintro e W1 ⟨rfl, hb1⟩
  have hH1 := hid (hH0'.out.below hb1 hH0'.out.lt)
  have hB1 := hid (hB0'.out.trans (hb1.mono hB0'.out.size))
  have hth := ent_there W1 x
  have hsz := ent_size x
  have hone := x.one
  obtain ⟨g, hg⟩ : ∃ g, W1.heap.size = g := ⟨_, rfl⟩
  obtain ⟨W2, hW2⟩ : ∃ W2, (W1.alloc (.cells z3 60)).setCells W1.heap.size 0 x.cells = W2 := ⟨_, rfl⟩
  obtain ⟨hv, hb2⟩ := ent_var hW2
  obtain ⟨d0, d1, d2⟩ := ent_held hv
  have hH2 := hid (hH1.out.below hb2 hH1.out.lt)
  have hB2 := hid (hB1.out.trans (hb2.mono hB1.out.size))
  obtain ⟨W3, hW3⟩ : ∃ W3, W2.setCells q 0 [.int .i64 x.owner, .int .i64 x.num] = W3 := ⟨_, rfl⟩
  have hH3 : Holds W3 q 38 [.int .i64 x.owner, .int .i64 x.num] := by
    rw [← hW3]
    have h1 := hH2.out.put 0 [.int .i64 x.owner, .int .i64 x.num] (by simp)
    exact h1
  have hB3 : Below w.heap.size w W3 := by rw [← hW3]; exact below_setCells hB2.out _ _ _ (by rw [hq'.out]; exact Nat.le_refl _)
  have hth2 := hid (hH2.out.there 0 2 (by decide))
  have hH3' := hid hH3
  have hB3' := hid hB3
  have hW3' := hid hW3
  have hW2' := hid hW2
  rename_i hK
  refine hK _ _ ?_
  clear hH3 hB3 hW3 hb1 hW2 hv hb2 hg hF hK
  go_wp2_with (first
    | ((with_reducible refine at_slot (some 6) ?_); refine wpList_run rfl (.pointer (some ⟨W1.heap.size, 0, none⟩)) (W1.alloc (.cells z3 60)) (by kernel_rfl) ?_)
    | ((with_reducible refine at_slot none ?_); refine wpList_store_mid rfl 60 (.tmp 6) (.tmp 12) rfl W1.heap.size 0 x.cells.toArray rfl rfl (by exact hth) (by exact hsz) (by exact hone) ?_; rw [hW2'.out])
    | ((with_reducible refine at_slot none ?_); refine wpList_store_mid rfl 38 (.tmp 4) (.tmp 15) rfl q 0 #[.int .i64 x.owner, .int .i64 x.num] rfl rfl (by exact hth2.out) (by kernel_rfl) (by kernel_rfl) ?_; rw [hW3'.out])
    | fail)
  exact bodyPost_ret (v := .tuple #[.agg #[.int .i64 x.owner, .int .i64 x.num], .bool f]) (find_results _ _ q _ f rfl rfl hH3'.out rfl) rfl ⟨rfl, hB3'.out⟩

end Go.Proofs.Ytapegklffglnoaa
