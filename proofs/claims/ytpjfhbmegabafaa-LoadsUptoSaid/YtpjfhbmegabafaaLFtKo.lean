/- Layer 12, the reference's side: NewKnown. -/
import Derived.Test.YtpjfhbmegabafaaLFtKn
namespace Go.Proofs.Ytpjfhbmegabafaa
open Go.RowKit
open Go.Lib (strCells strCells_length strCells_oneCell)
attribute [local irreducible] Sha.compress Sha.blocks Sha.sha Sha.pad

set_option maxRecDepth 100000 in
set_option maxHeartbeats 2000000 in
theorem newKn_any (A0 : Option Addr) (n c0 : Nat) (xs : List ByteArray) (hn : n ≤ 1048576) (hlen : xs.length = n) (hsm : ∀ x ∈ xs, x.size ≤ 140737488351232) (w : World) (hA : 0 < n → ∃ p : Addr, A0 = some p ∧ p.block < w.heap.size ∧ ∀ i x, xs[i]? = some x → w.cell? (p.add i) = some (.string x)) :
    Calls Try.prog 31 #[.slice A0 n c0] w fun e w' => e = .returned (.pointer (some ⟨w.heap.size, 0, none⟩)) ∧ KnAt w' (w.heap.size + 1) w.heap.size (knOf xs) ∧ Below w.heap.size w w' := by
  obtain ⟨r, hr⟩ : ∃ r, w.heap.size = r := ⟨_, rfl⟩
  obtain ⟨W0, hW0⟩ : ∃ V, w.alloc (.cells #[.slice none 0 0] 113) = V := ⟨_, rfl⟩
  have hb0 : Below r w W0 := by rw [← hW0, ← hr]; exact (Below.refl _ _).alloc (Nat.le_refl _) _
  have hH0 : Holds W0 r 113 [.slice none 0 0] := by rw [← hW0, ← hr]; exact Holds.new w _ #[.slice none 0 0]
  have hk0 := hid (show KnAt W0 (r + 1) r (knOf (xs.take 0)) from ⟨none, 0, hH0, World.ownsRow_nil _ _ _ _, fun p h => (List.not_mem_nil h).elim, Nat.zero_le _⟩)
  have hQ0 := hid hb0
  have hW0' := hid hW0
  have hr' := hid hr
  have hn' := hid hn
  have hl' := hid hlen
  have hA' := hid hA
  have hsm' := hid hsm
  rw [hr]
  obtain ⟨io, hi0, hz0, hz1, hz2⟩ := info_parts infoObj
  have hi0 := hid hi0
  have hz0 := hid hz0
  have hz1 := hid hz1
  have hz2 := hid hz2
  have hrs := hid (Nat.le_refl r)
  clear hW0 hb0 hH0 hn hlen hA hsm hr
  go_enter Try.func31, Try.ntmps31
  go_wp2_with (first
    | ((with_reducible refine at_slot (some 6) ?_); refine wpList_run rfl (.pointer (some ⟨r, 0, none⟩)) (w.alloc (.cells #[.slice none 0 0] 113)) (by rw [← hr'.out]; kernel_rfl) ?_; rw [hW0'.out])
    | fail)
  go_loopw [4] (fun ix wr => ∃ i : Nat, i ≤ n ∧ ix = .int .i64 (i : Int) ∧ KnAt wr (r + 1) r (knOf (xs.take i)) ∧ Below r w wr) (fun ix _ => n - (intOf ix).toNat)
  case atStart => exact ⟨0, Nat.zero_le _, rfl, hk0.out, hQ0.out⟩
  case round =>
    obtain ⟨i, hi, rfl, hk, hQ⟩ := hrel
    obtain ⟨W4, rfl⟩ : ∃ V, V = wr := ⟨_, rfl⟩
    by_cases hlt : i < n
    · have hlt' : (i : Int) < (n : Int) := by omega
      have s3 : (0 : Int) ≤ (i : Int) := by omega
      have hiw := IntWalk.i64_in ((i : Int) + 1) (by have := hn'.out; omega)
      obtain ⟨p, rfl, hpb, hpc⟩ := hA'.out (by omega)
      have hxk := List.getElem?_eq_getElem (l := xs) (i := i) (by have := hl'.out; omega)
      obtain ⟨x, hx⟩ : ∃ x, xs[i]'(by have := hl'.out; omega) = x := ⟨_, rfl⟩
      rw [hx] at hxk
      have hcell : W4.cell? (p.add i) = some (.string x) := (hQ.cell (by rw [add_block]; have := hr'.out; omega)).trans (hpc i x hxk)
      have hxz := hid (hsm'.out x (List.mem_of_getElem? hxk))
      have hpb := hid (show p.block < r from by have := hr'.out; omega)
      have htk : xs.take (i + 1) = xs.take i ++ [x] := by rw [List.take_add_one, hxk]; rfl
      have hnx0 := knOf_snoc (xs.take i) x
      rw [← htk] at hnx0
      have hml := knOf_le (xs.take i)
      have hml2 : (xs.take i).length ≤ i := by rw [List.length_take]; omega
      obtain ⟨m, hm⟩ : ∃ m, knOf (xs.take i) = m := ⟨_, rfl⟩
      rw [hm] at hk hnx0 hml
      have hm9 := hid (show m.length ≤ i ∧ i < 1048576 from by have := hn'.out; omega)
      have hm10 := hid (show m.length + 1 ≤ 1048576 from by have := hm9.out; omega)
      have hk' := hid hk
      have hQ' := hid hQ
      clear hk hQ hxk hx htk hml hml2 hpc
      by_cases hsz : x.size ≤ 65536
      · rw [if_pos hsz] at hnx0
        have hnx := hid hnx0
        have hs1 : (x.size : Int) ≤ 65536 := by omega
        have hOb := hid (fun W => rObject_any x hxz.out W)
        rw [show objAns x = obHash x from if_pos hsz] at hOb
        have hk32 := obHash_len x
        have hbuild := hid (ob_build (obHash x) x)
        have hO := hid (ob_cells (obHash x) hk32 x)
        have hones := hid (show ∀ u ∈ obCells (obHash x, x), u.oneCell' = true from fun u hu => Array.all_eq_true_iff_forall_mem.1 (ob_cells (obHash x) hk32 x).one u (by simpa using hu))
        obtain ⟨hc, hcd⟩ : ∃ c, byteCells (obHash x) = c := ⟨_, rfl⟩
        have hY := hid (show hc.toArray.size = 32 from by rw [← hcd, List.size_toArray, byteCells, List.length_map, hk32])
        obtain ⟨oc, hocd⟩ : ∃ o, obCells (obHash x, x) = o := ⟨_, rfl⟩
        have hoc := hid hocd
        rw [hcd] at hOb hbuild
        rw [hocd] at hO hones hbuild
        clear hnx0 hsz hk32 hcd hocd
        go_wp2_with fail
        have hbd : Below W4.heap.size W4 W4.drew := (Below.refl _ _).drew
        obtain ⟨A, c, hHh, hOo, -, -⟩ := hk'.out
        have hH5 := hid (hHh.below hbd hHh.lt)
        have hO5 := hid (rown_on hOo hbd)
        have hQ5 := hid (hQ'.out.trans (hbd.mono (by have := hHh.lt; omega)))
        refine wp_region_held_drew (S := fun V => V.cell? (p.add i) = some (.string x)) (by kernel_rfl) (by exact hcell) (fun hHeld => ?_)
        clear hHh hOo hbd hcell
        generalize W4.drew = W5 at *
        refine tkx 0 (.pointer (some ⟨r, 0, none⟩)) hHeld ?_; simp only [ly, Act.put]
        refine tkx 1 (.pointer (some ⟨r, 0, none⟩)) hHeld ?_; simp only [ly, Act.put]
        refine tkx 2 (.pointer (some ⟨r, 0, none⟩)) hHeld ?_; simp only [ly, Act.put]
        refine tkx 3 (.pointer (some ⟨r, 0, none⟩)) hHeld ?_; simp only [ly, Act.put]
        refine tkx 5 (.slice (some p) n c0) hHeld ?_; simp only [ly, Act.put]
        refine tkx 6 (.int .i64 (i : Int)) hHeld ?_; simp only [ly, Act.put]
        refine tkx 7 (.pointer (some (p.add i))) hHeld ?_; simp only [ly, Act.put]
        refine tkx 8 (.string x) hHeld ?_ (hy := .inl ⟨by kernel_rfl, fun V hS => by have c1 : V.cell? (p.add i) = some (.string x) := hS; go_simp⟩); simp only [ly, Act.put]
        refine tkx 10 (.slice (some p) n c0) hHeld ?_; simp only [ly, Act.put]
        refine tkx 11 (.int .i64 (i : Int)) hHeld ?_; simp only [ly, Act.put]
        refine tkx 12 (.pointer (some (p.add i))) hHeld ?_; simp only [ly, Act.put]
        refine tkx 13 (.string x) hHeld ?_ (hy := .inl ⟨by kernel_rfl, fun V hS => by have c1 : V.cell? (p.add i) = some (.string x) := hS; go_simp⟩); simp only [ly, Act.put]
        refine wpAnyH_ready (rs := [4, 9]) (by kernel_rfl) (by simp) (AllReadyH.cons rfl (fun K hK => ?_) (AllReadyH.cons rfl (fun K hK => ?_) AllReadyH.nil))
        · skip
          have hK' := hid hK
          clear hK
          rw [if_pos (by kernel_rfl)]
          simp only [ly1, ly2, ly3]
          have c0 := hH5.out.cO 0 _ rfl
          go_simp
          refine hK'.out _ _ hHeld (fun hHeld => ?_)
          clear hK' K c0
          refine wpAnyH_ready (rs := [9]) (by kernel_rfl) (by simp) (AllReadyH.cons rfl (fun K hK => ?_) AllReadyH.nil)
          have hK' := hid hK
          clear hK
          rw [if_pos (by kernel_rfl)]
          simp only [ly1, ly2, ly3]
          go_simp
          refine (hOb.out W5).mono ?_
          rintro e W6a ⟨rfl, hb⟩
          have hH6a := hid (hH5.out.below hb hH5.out.lt)
          have hO6a := hid (rown_on hO5.out hb)
          have hQ6a := hid (hQ5.out.trans (hb.mono (by have := hQ5.out.size; have := hr'.out; omega)))
          have hC6a : W6a.cell? (p.add i) = some (.string x) := (hb.cell (by rw [add_block]; exact Nat.lt_of_lt_of_le hpb.out (by have := hQ5.out.size; have := hr'.out; omega))).trans hHeld
          refine hK'.out _ _ hC6a (fun hHeld => ?_)
          clear hK' K hb hC6a
          refine tkx 14 (.agg oc.toArray) hHeld ?_ (hy := .inl ⟨by kernel_rfl, fun w _ => by rw [hbuild.out]; have hys := hY.out; generalize hc.toArray = Y at hys ⊢; go_simp; rw [place_first _ _ _ hys (by simp)]; simp [put, hys]; exact Array.toList_inj.1 (by simp)⟩); simp only [ly, Act.put]
          refine wpAnyH_ready (rs := [15]) (by kernel_rfl) (by simp) (AllReadyH.cons rfl (fun K hK => ?_) AllReadyH.nil)
          have hK' := hid hK
          clear hK
          rw [if_pos (by kernel_rfl)]
          simp only [ly1, ly2, ly3]
          refine wp_buildOne 80 85 (.tmp 33) rfl io _ Try.underlying80 hi0.out hz0.out oc.toArray rfl (by rw [hz1.out, List.size_toArray, hO.out.len]) (by rw [List.size_toArray, hO.out.len]; decide) (by rw [List.size_toArray, hO.out.len]; decide) ?_
          obtain ⟨gq, hgq⟩ : ∃ g, W6a.heap.size = g := ⟨_, rfl⟩
          have hb : Below W6a.heap.size W6a (W6a.alloc (.cells oc.toArray 85)) := (Below.refl _ _).alloc (Nat.le_refl _) _
          have hN : Holds (W6a.alloc (.cells oc.toArray 85)) W6a.heap.size 85 oc := Holds.new _ _ _
          generalize hXx : W6a.alloc (.cells oc.toArray 85) = W6b at *
          rw [hgq] at hN ⊢
          clear hXx
          have hH6b := hid (hH6a.out.below hb hH6a.out.lt)
          have hO6b := hid (rown_on hO6a.out hb)
          have hQ6b := hid (hQ6a.out.trans (hb.mono (by have := hQ6a.out.size; have := hr'.out; omega)))
          have hC6b : W6b.cell? (p.add i) = some (.string x) := (hb.cell (by rw [add_block]; exact Nat.lt_of_lt_of_le hpb.out (by have := hQ6a.out.size; have := hr'.out; omega))).trans hHeld
          have hN6b := hid hN
          refine hK'.out _ _ hC6b (fun hHeld => ?_)
          clear hK' K hb hC6b hN hgq
          refine wpAnyH_ready (rs := [16]) (by kernel_rfl) (by simp) (AllReadyH.cons rfl (fun K hK => ?_) AllReadyH.nil)
          have hK' := hid hK
          clear hK
          rw [if_pos (by kernel_rfl)]
          simp only [ly1, ly2, ly3]
          have hat := hid (show At W6b W6b.heap.size 33 (some ⟨gq, 0, none⟩) 1 oc from ⟨by rw [hO.out.len], .inr ⟨_, rfl, hN6b.out.lt, fun j hj => by
            rw [show (⟨gq, 0, none⟩ : Addr).add j = ⟨gq, j, none⟩ from by unfold Addr.add; split <;> simp_all]
            exact (hN6b.out.cell j).trans (List.getElem?_eq_getElem hj)⟩⟩)
          refine wp_appends (.tmp 23) (.tmp 34) 80 85 rfl (r + 1) io _ 33 48 Try.underlying80 hi0.out hz0.out hz1.out hz2.out (by decide) (by decide) A m.length c (rowOb m) W6b.heap.size (some ⟨gq, 0, none⟩) 1 1 oc rfl rfl (by intro h; cases h) (by exact hones.out) (by have := hm9.out; omega) (by have := hm9.out; omega) (by exact hO6b.out) (by exact hat.out) (by have := hH6b.out.lt; omega) ?_
          intro A2 c2 W7 hrow hbB hgr
          have hH7 := hid (hH6b.out.grown hgr (rown_apart hO6b.out hH6b.out (by decide)).symm)
          have hO7 := hid hrow
          have hQ7 := hid (show Below r w W7 from hQ6b.out.trans (hbB.mono (Nat.le_succ r)))
          have hC7 : W7.cell? (p.add i) = some (.string x) := (hbB.cell (by rw [add_block]; have := hpb.out; omega)).trans hHeld
          clear hrow hbB hgr hat
          refine hK'.out _ _ hC7 (fun hHeld => ?_)
          clear hK' K hC7
          refine tkx 17 (.pointer (some ⟨r, 0, none⟩)) hHeld ?_; simp only [ly, Act.put]
          refine tkx 18 (.pointer (some ⟨r, 0, none⟩)) hHeld ?_; simp only [ly, Act.put]
          refine wpAnyH_ready (rs := [19]) (by kernel_rfl) (by simp) (AllReadyH.cons rfl (fun K hK => ?_) AllReadyH.nil)
          have hK' := hid hK
          clear hK
          rw [if_pos (by kernel_rfl)]
          simp only [ly1, ly2, ly3]
          have cg := hH7.out.cO 0 _ rfl
          have fg := hH7.out.frozen 0
          go_simp
          obtain ⟨W8, hW8⟩ : ∃ V, W7.setCell ⟨r, 0, none⟩ (.slice A2 (m.length + 1) c2) = V := ⟨_, rfl⟩
          have hH8 := hid (show Holds W8 r 113 [.slice A2 (m.length + 1) c2] from by rw [← hW8]; exact Holds.set hH7.out 0 _)
          have hO8 := hid (show W8.ownsRow (r + 1) 85 33 (.slice A2 (m.length + 1) c2) (m.length + 1) (rowOb m ++ oc) from by rw [← hW8]; exact rown_block hO7.out fun k hk => heap_setCell_other _ _ _ _ (by show k ≠ r; have := (hO7.out.lt k hk).1; omega))
          have hQ8 := hid (show Below r w W8 from by rw [← hW8]; exact hQ7.out.setCell (p := ⟨r, 0, none⟩) (Nat.le_refl _) _)
          have hC8 : W8.cell? (p.add i) = some (.string x) := by rw [← hW8, World.cell?_of_block (w := W7) (heap_setCell_other _ _ _ _ (by rw [add_block]; show p.block ≠ r; have := hpb.out; omega))]; exact hHeld
          rw [hW8]
          refine hK'.out _ _ hC8 (fun hHeld => ?_)
          clear hK' K cg fg hW8 hC8
          refine wpAnyH_done (by kernel_rfl) ?_ _
          clear hHeld
          go_wp2_with fail
          go_roundw
          case rel => exact ⟨i + 1, by omega, by go_num, ⟨A2, c2, by rw [hnx.out, List.length_append]; exact hH8.out, by rw [hnx.out, List.length_append, rowOb_snoc, hoc.out]; exact hO8.out, knOf_len _, by rw [hnx.out, List.length_append]; have := hm10.out; simp; omega⟩, hQ8.out⟩
          case measure => simp [intOf]; omega
        · skip
          have hK' := hid hK
          clear hK
          rw [if_pos (by kernel_rfl)]
          simp only [ly1, ly2, ly3]
          go_simp
          refine (hOb.out W5).mono ?_
          rintro e W6a ⟨rfl, hb⟩
          have hH6a := hid (hH5.out.below hb hH5.out.lt)
          have hO6a := hid (rown_on hO5.out hb)
          have hQ6a := hid (hQ5.out.trans (hb.mono (by have := hQ5.out.size; have := hr'.out; omega)))
          have hC6a : W6a.cell? (p.add i) = some (.string x) := (hb.cell (by rw [add_block]; exact Nat.lt_of_lt_of_le hpb.out (by have := hQ5.out.size; have := hr'.out; omega))).trans hHeld
          refine hK'.out _ _ hC6a (fun hHeld => ?_)
          clear hK' K hb hC6a
          refine tkx 14 (.agg oc.toArray) hHeld ?_ (hy := .inl ⟨by kernel_rfl, fun w _ => by rw [hbuild.out]; have hys := hY.out; generalize hc.toArray = Y at hys ⊢; go_simp; rw [place_first _ _ _ hys (by simp)]; simp [put, hys]; exact Array.toList_inj.1 (by simp)⟩); simp only [ly, Act.put]
          refine wpAnyH_ready (rs := [4, 15]) (by kernel_rfl) (by simp) (AllReadyH.cons rfl (fun K hK => ?_) (AllReadyH.cons rfl (fun K hK => ?_) AllReadyH.nil))
          · skip
            have hK' := hid hK
            clear hK
            rw [if_pos (by kernel_rfl)]
            simp only [ly1, ly2, ly3]
            have c0 := hH6a.out.cO 0 _ rfl
            go_simp
            refine hK'.out _ _ hHeld (fun hHeld => ?_)
            clear hK' K c0
            refine wpAnyH_ready (rs := [15]) (by kernel_rfl) (by simp) (AllReadyH.cons rfl (fun K hK => ?_) AllReadyH.nil)
            have hK' := hid hK
            clear hK
            rw [if_pos (by kernel_rfl)]
            simp only [ly1, ly2, ly3]
            refine wp_buildOne 80 85 (.tmp 33) rfl io _ Try.underlying80 hi0.out hz0.out oc.toArray rfl (by rw [hz1.out, List.size_toArray, hO.out.len]) (by rw [List.size_toArray, hO.out.len]; decide) (by rw [List.size_toArray, hO.out.len]; decide) ?_
            obtain ⟨gq, hgq⟩ : ∃ g, W6a.heap.size = g := ⟨_, rfl⟩
            have hb : Below W6a.heap.size W6a (W6a.alloc (.cells oc.toArray 85)) := (Below.refl _ _).alloc (Nat.le_refl _) _
            have hN : Holds (W6a.alloc (.cells oc.toArray 85)) W6a.heap.size 85 oc := Holds.new _ _ _
            generalize hXx : W6a.alloc (.cells oc.toArray 85) = W6b at *
            rw [hgq] at hN ⊢
            clear hXx
            have hH6b := hid (hH6a.out.below hb hH6a.out.lt)
            have hO6b := hid (rown_on hO6a.out hb)
            have hQ6b := hid (hQ6a.out.trans (hb.mono (by have := hQ6a.out.size; have := hr'.out; omega)))
            have hC6b : W6b.cell? (p.add i) = some (.string x) := (hb.cell (by rw [add_block]; exact Nat.lt_of_lt_of_le hpb.out (by have := hQ6a.out.size; have := hr'.out; omega))).trans hHeld
            have hN6b := hid hN
            refine hK'.out _ _ hC6b (fun hHeld => ?_)
            clear hK' K hb hC6b hN hgq
            refine wpAnyH_ready (rs := [16]) (by kernel_rfl) (by simp) (AllReadyH.cons rfl (fun K hK => ?_) AllReadyH.nil)
            have hK' := hid hK
            clear hK
            rw [if_pos (by kernel_rfl)]
            simp only [ly1, ly2, ly3]
            have hat := hid (show At W6b W6b.heap.size 33 (some ⟨gq, 0, none⟩) 1 oc from ⟨by rw [hO.out.len], .inr ⟨_, rfl, hN6b.out.lt, fun j hj => by
              rw [show (⟨gq, 0, none⟩ : Addr).add j = ⟨gq, j, none⟩ from by unfold Addr.add; split <;> simp_all]
              exact (hN6b.out.cell j).trans (List.getElem?_eq_getElem hj)⟩⟩)
            refine wp_appends (.tmp 23) (.tmp 34) 80 85 rfl (r + 1) io _ 33 48 Try.underlying80 hi0.out hz0.out hz1.out hz2.out (by decide) (by decide) A m.length c (rowOb m) W6b.heap.size (some ⟨gq, 0, none⟩) 1 1 oc rfl rfl (by intro h; cases h) (by exact hones.out) (by have := hm9.out; omega) (by have := hm9.out; omega) (by exact hO6b.out) (by exact hat.out) (by have := hH6b.out.lt; omega) ?_
            intro A2 c2 W7 hrow hbB hgr
            have hH7 := hid (hH6b.out.grown hgr (rown_apart hO6b.out hH6b.out (by decide)).symm)
            have hO7 := hid hrow
            have hQ7 := hid (show Below r w W7 from hQ6b.out.trans (hbB.mono (Nat.le_succ r)))
            have hC7 : W7.cell? (p.add i) = some (.string x) := (hbB.cell (by rw [add_block]; have := hpb.out; omega)).trans hHeld
            clear hrow hbB hgr hat
            refine hK'.out _ _ hC7 (fun hHeld => ?_)
            clear hK' K hC7
            refine tkx 17 (.pointer (some ⟨r, 0, none⟩)) hHeld ?_; simp only [ly, Act.put]
            refine tkx 18 (.pointer (some ⟨r, 0, none⟩)) hHeld ?_; simp only [ly, Act.put]
            refine wpAnyH_ready (rs := [19]) (by kernel_rfl) (by simp) (AllReadyH.cons rfl (fun K hK => ?_) AllReadyH.nil)
            have hK' := hid hK
            clear hK
            rw [if_pos (by kernel_rfl)]
            simp only [ly1, ly2, ly3]
            have cg := hH7.out.cO 0 _ rfl
            have fg := hH7.out.frozen 0
            go_simp
            obtain ⟨W8, hW8⟩ : ∃ V, W7.setCell ⟨r, 0, none⟩ (.slice A2 (m.length + 1) c2) = V := ⟨_, rfl⟩
            have hH8 := hid (show Holds W8 r 113 [.slice A2 (m.length + 1) c2] from by rw [← hW8]; exact Holds.set hH7.out 0 _)
            have hO8 := hid (show W8.ownsRow (r + 1) 85 33 (.slice A2 (m.length + 1) c2) (m.length + 1) (rowOb m ++ oc) from by rw [← hW8]; exact rown_block hO7.out fun k hk => heap_setCell_other _ _ _ _ (by show k ≠ r; have := (hO7.out.lt k hk).1; omega))
            have hQ8 := hid (show Below r w W8 from by rw [← hW8]; exact hQ7.out.setCell (p := ⟨r, 0, none⟩) (Nat.le_refl _) _)
            have hC8 : W8.cell? (p.add i) = some (.string x) := by rw [← hW8, World.cell?_of_block (w := W7) (heap_setCell_other _ _ _ _ (by rw [add_block]; show p.block ≠ r; have := hpb.out; omega))]; exact hHeld
            rw [hW8]
            refine hK'.out _ _ hC8 (fun hHeld => ?_)
            clear hK' K cg fg hW8 hC8
            refine wpAnyH_done (by kernel_rfl) ?_ _
            clear hHeld
            go_wp2_with fail
            go_roundw
            case rel => exact ⟨i + 1, by omega, by go_num, ⟨A2, c2, by rw [hnx.out, List.length_append]; exact hH8.out, by rw [hnx.out, List.length_append, rowOb_snoc, hoc.out]; exact hO8.out, knOf_len _, by rw [hnx.out, List.length_append]; have := hm10.out; simp; omega⟩, hQ8.out⟩
            case measure => simp [intOf]; omega
          · skip
            have hK' := hid hK
            clear hK
            rw [if_pos (by kernel_rfl)]
            simp only [ly1, ly2, ly3]
            refine wp_buildOne 80 85 (.tmp 33) rfl io _ Try.underlying80 hi0.out hz0.out oc.toArray rfl (by rw [hz1.out, List.size_toArray, hO.out.len]) (by rw [List.size_toArray, hO.out.len]; decide) (by rw [List.size_toArray, hO.out.len]; decide) ?_
            obtain ⟨gq, hgq⟩ : ∃ g, W6a.heap.size = g := ⟨_, rfl⟩
            have hb : Below W6a.heap.size W6a (W6a.alloc (.cells oc.toArray 85)) := (Below.refl _ _).alloc (Nat.le_refl _) _
            have hN : Holds (W6a.alloc (.cells oc.toArray 85)) W6a.heap.size 85 oc := Holds.new _ _ _
            generalize hXx : W6a.alloc (.cells oc.toArray 85) = W6b at *
            rw [hgq] at hN ⊢
            clear hXx
            have hH6b := hid (hH6a.out.below hb hH6a.out.lt)
            have hO6b := hid (rown_on hO6a.out hb)
            have hQ6b := hid (hQ6a.out.trans (hb.mono (by have := hQ6a.out.size; have := hr'.out; omega)))
            have hC6b : W6b.cell? (p.add i) = some (.string x) := (hb.cell (by rw [add_block]; exact Nat.lt_of_lt_of_le hpb.out (by have := hQ6a.out.size; have := hr'.out; omega))).trans hHeld
            have hN6b := hid hN
            refine hK'.out _ _ hC6b (fun hHeld => ?_)
            clear hK' K hb hC6b hN hgq
            refine wpAnyH_ready (rs := [4]) (by kernel_rfl) (by simp) (AllReadyH.cons rfl (fun K hK => ?_) AllReadyH.nil)
            have hK' := hid hK
            clear hK
            rw [if_pos (by kernel_rfl)]
            simp only [ly1, ly2, ly3]
            have c0 := hH6b.out.cO 0 _ rfl
            go_simp
            refine hK'.out _ _ hHeld (fun hHeld => ?_)
            clear hK' K c0
            refine wpAnyH_ready (rs := [16]) (by kernel_rfl) (by simp) (AllReadyH.cons rfl (fun K hK => ?_) AllReadyH.nil)
            have hK' := hid hK
            clear hK
            rw [if_pos (by kernel_rfl)]
            simp only [ly1, ly2, ly3]
            have hat := hid (show At W6b W6b.heap.size 33 (some ⟨gq, 0, none⟩) 1 oc from ⟨by rw [hO.out.len], .inr ⟨_, rfl, hN6b.out.lt, fun j hj => by
              rw [show (⟨gq, 0, none⟩ : Addr).add j = ⟨gq, j, none⟩ from by unfold Addr.add; split <;> simp_all]
              exact (hN6b.out.cell j).trans (List.getElem?_eq_getElem hj)⟩⟩)
            refine wp_appends (.tmp 23) (.tmp 34) 80 85 rfl (r + 1) io _ 33 48 Try.underlying80 hi0.out hz0.out hz1.out hz2.out (by decide) (by decide) A m.length c (rowOb m) W6b.heap.size (some ⟨gq, 0, none⟩) 1 1 oc rfl rfl (by intro h; cases h) (by exact hones.out) (by have := hm9.out; omega) (by have := hm9.out; omega) (by exact hO6b.out) (by exact hat.out) (by have := hH6b.out.lt; omega) ?_
            intro A2 c2 W7 hrow hbB hgr
            have hH7 := hid (hH6b.out.grown hgr (rown_apart hO6b.out hH6b.out (by decide)).symm)
            have hO7 := hid hrow
            have hQ7 := hid (show Below r w W7 from hQ6b.out.trans (hbB.mono (Nat.le_succ r)))
            have hC7 : W7.cell? (p.add i) = some (.string x) := (hbB.cell (by rw [add_block]; have := hpb.out; omega)).trans hHeld
            clear hrow hbB hgr hat
            refine hK'.out _ _ hC7 (fun hHeld => ?_)
            clear hK' K hC7
            refine tkx 17 (.pointer (some ⟨r, 0, none⟩)) hHeld ?_; simp only [ly, Act.put]
            refine tkx 18 (.pointer (some ⟨r, 0, none⟩)) hHeld ?_; simp only [ly, Act.put]
            refine wpAnyH_ready (rs := [19]) (by kernel_rfl) (by simp) (AllReadyH.cons rfl (fun K hK => ?_) AllReadyH.nil)
            have hK' := hid hK
            clear hK
            rw [if_pos (by kernel_rfl)]
            simp only [ly1, ly2, ly3]
            have cg := hH7.out.cO 0 _ rfl
            have fg := hH7.out.frozen 0
            go_simp
            obtain ⟨W8, hW8⟩ : ∃ V, W7.setCell ⟨r, 0, none⟩ (.slice A2 (m.length + 1) c2) = V := ⟨_, rfl⟩
            have hH8 := hid (show Holds W8 r 113 [.slice A2 (m.length + 1) c2] from by rw [← hW8]; exact Holds.set hH7.out 0 _)
            have hO8 := hid (show W8.ownsRow (r + 1) 85 33 (.slice A2 (m.length + 1) c2) (m.length + 1) (rowOb m ++ oc) from by rw [← hW8]; exact rown_block hO7.out fun k hk => heap_setCell_other _ _ _ _ (by show k ≠ r; have := (hO7.out.lt k hk).1; omega))
            have hQ8 := hid (show Below r w W8 from by rw [← hW8]; exact hQ7.out.setCell (p := ⟨r, 0, none⟩) (Nat.le_refl _) _)
            have hC8 : W8.cell? (p.add i) = some (.string x) := by rw [← hW8, World.cell?_of_block (w := W7) (heap_setCell_other _ _ _ _ (by rw [add_block]; show p.block ≠ r; have := hpb.out; omega))]; exact hHeld
            rw [hW8]
            refine hK'.out _ _ hC8 (fun hHeld => ?_)
            clear hK' K cg fg hW8 hC8
            refine wpAnyH_done (by kernel_rfl) ?_ _
            clear hHeld
            go_wp2_with fail
            go_roundw
            case rel => exact ⟨i + 1, by omega, by go_num, ⟨A2, c2, by rw [hnx.out, List.length_append]; exact hH8.out, by rw [hnx.out, List.length_append, rowOb_snoc, hoc.out]; exact hO8.out, knOf_len _, by rw [hnx.out, List.length_append]; have := hm10.out; simp; omega⟩, hQ8.out⟩
            case measure => simp [intOf]; omega
      · rw [if_neg hsz, List.append_nil] at hnx0
        have hnx := hid hnx0
        have hs1 : ¬ (x.size : Int) ≤ 65536 := by omega
        clear hnx0 hsz
        go_wp2_with fail
        go_roundw
        case rel => exact ⟨i + 1, by omega, by go_num, by rw [hnx.out]; exact hk'.out, hQ'.out⟩
        case measure => simp [intOf]; omega
    · have hlt' : ¬ (i : Int) < (n : Int) := by omega
      obtain rfl : i = n := by omega
      rw [List.take_of_length_le (by have := hl'.out; omega)] at hk
      have hk' := hid hk
      have hQ' := hid hQ
      clear hk hQ
      go_wp2_with fail
      go_ret
      exact ⟨rfl, hk'.out, hQ'.out⟩

end Go.Proofs.Ytpjfhbmegabafaa
