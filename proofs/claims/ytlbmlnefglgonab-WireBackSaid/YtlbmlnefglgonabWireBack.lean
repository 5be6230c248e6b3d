/- The statement WireBack: its walk. -/
import Derived.Test.YtlbmlnefglgonabBack
namespace Go.Proofs.Ytlbmlnefglgonab
open Go.RowKit
open Go.Lib (strCells strCells_length strCells_oneCell)

theorem Try.infoAct3 : (Try.prog.info? 32).map (fun i => (i.zero, i.size, i.bytes)) = some (some (.agg zAct), 36, 72) := by kernel_rfl

theorem wireOf_drop_size (ds : List ActOf) (m : Nat) : (wireOf (ds.drop m)).size ≤ (wireOf ds).size := by
  induction ds generalizing m with
  | nil => simp
  | cons d ds ih =>
    cases m with
    | zero => exact Nat.le_refl _
    | succ m =>
      refine Nat.le_trans (ih m) ?_
      show _ ≤ ((pieceOf d).getD ByteArray.empty ++ wireOf ds).size
      rw [size_append]
      omega

/-- The row of the acts that were done: where each stands. -/
theorem own_acts {w : World} {B : Nat} {ds : List ActOf} {A1 : Option Addr} {c1 : Nat} (hf : ∀ d ∈ ds, d.fine) (h : w.ownsRow B 32 36 (.slice A1 ds.length c1) ds.length (flat ds)) (h0 : 0 < ds.length) :
    ∃ p : Addr, A1 = some p ∧ ∀ j (hj : j < ds.length) i v, ds[j].cells[i]? = some v → w.cell? ((p.add (j * 36)).add i) = some v := by
  have hcl := fun g => h.cells (g := g)
  rcases h.2 with ⟨_, h1⟩ | ⟨g, cap, cur, hv, _, hg, _⟩
  · omega
  · injection hv with h1 _ h2
    refine ⟨_, h1, fun j hj i v hv => ?_⟩
    have hi : i < 36 := by
      have := (List.getElem?_eq_some_iff.1 hv).1
      rw [ActOf.len (hf _ (List.getElem_mem hj))] at this
      exact this
    rw [Go.Proofs.Ytlbmlnefglgonab.add_add]
    refine hcl g (by rw [h1]; rfl) (j * 36 + i) v ?_
    rw [flat_get ds hf j hj i hi, hv]

theorem own_other {w w' : World} {B g2 : Nat} {v : Value} {n : Nat} {cs : List Value} (h : w.ownsRow B 32 36 v n cs) {l : ByteArray} (hg : Rd w g2 l) (hb : w.grownBy w' (some g2)) : w'.ownsRow B 32 36 v n cs := by
  refine ownsRow_same h fun q hq => ?_
  obtain ⟨cur, ht⟩ := own_type h hq
  exact hb.block q (h.lt q hq).2 (fun e => by injection e with e; exact type_ne ht hg (by decide) e)

theorem ownBlock_ge {w : World} {B sz n : Nat} {e : TypeId} {v : Value} {cs : List Value} (h : w.ownsRow B e sz v n cs) : ∀ k, v.ownBlock = some k → B ≤ k := fun k hk => (h.lt k hk).1

theorem act_new (w : World) (a : ActOf) (i : Nat) (hi : i < a.cells.length) : (w.alloc (.cells a.cells.toArray 32)).cell? ((⟨w.heap.size, 0, none⟩ : Addr).add i) = some a.cells[i] := by
  have e0 : (⟨w.heap.size, 0, none⟩ : Addr).add i = ⟨w.heap.size, i, none⟩ := by
    unfold Addr.add
    by_cases h0 : i = 0 <;> simp [h0]
  rw [e0, (Holds.new w 32 a.cells.toArray).cell i]
  exact List.getElem?_eq_getElem hi

set_option maxRecDepth 100000 in
set_option maxHeartbeats 16000000 in
theorem WireBack_law (A : Option Addr) (n c : Nat) (xs : List ActOf) (w : World) (hA : Acts w w.heap.size A n xs) (hn : n ≤ maxLen) :
    Calls Try.prog 5 #[.slice A n c] w fun e w' => e = .returned (.bool true) ∧ Below w.heap.size w w' := by
  obtain ⟨ia, hai, haz, has⟩ := info_two Try.infoAct
  obtain ⟨ih, hhi, hhz, hhs, hhb⟩ := info_parts Try.infoHashI
  obtain ⟨i3, h3i, h3z, h3s, h3b⟩ := info_parts Try.infoAct3
  unfold maxLen at hn
  go_enter Try.func5, Try.ntmps5
  go_wp2_with fail
  refine (awake3_any _).mono ?_
  rintro e W0 ⟨rfl, hb0⟩
  have hs0 := hb0.size
  go_wp2_with fail
  refine (wireNew_any _).mono ?_
  rintro e W1 ⟨rfl, rfl⟩
  go_wp2_with fail
  go_loopw [4, 5] (fun v i wr => ∃ (j : Nat) (ds : List ActOf) (A1 : Option Addr) (c1 : Nat), i = .int .i64 j ∧ j ≤ n ∧ j ≤ 40 ∧ v = .slice A1 ds.length c1 ∧ ds.length ≤ j ∧ Back wr w.heap.size W0.heap.size (wireOf ds) ds A1 c1 ∧ Below w.heap.size w wr) (fun _ i _ => 40 - (intOf i).toNat)
  case atStart =>
    refine ⟨0, [], none, 0, rfl, Nat.zero_le _, by omega, rfl, Nat.zero_le _, ⟨by simp; omega, hs0, ⟨none, Wr.fresh W0, by simp⟩, World.ownsRow_nil _ _ _ _, by decide, by simp⟩, hb0.alloc hs0 _⟩
  case round =>
    obtain ⟨j, ds, A1, c1, rfl, hj1, hj2, rfl, hdj, hK, hB⟩ := hrel
    by_cases hlt : j < n ∧ j < 40
    · obtain ⟨hlt1, hlt2⟩ := hlt
      obtain ⟨hlen, hfine, h0 | ⟨pp, rfl, hpB, hcs⟩⟩ := hA.below hB
      · omega
      · have hjl : j < xs.length := by omega
        have hcs1 := hid (hcs j hjl)
        have hf1 := hid (hfine _ (List.getElem_mem hjl))
        generalize xs[j] = a at *
        have hla := hid (ActOf.len hf1.out)
        have hzs : Hid (zAct.size = a.cells.toArray.size) := hid (by show 36 = a.cells.length; exact hla.out.symm)
        obtain ⟨W, hW⟩ : ∃ W, wr.alloc (.cells a.cells.toArray 32) = W := ⟨_, rfl⟩
        have hQ := Holds.new wr 32 a.cells.toArray
        have hQb : (wr.alloc (.cells a.cells.toArray 32)).heap[wr.heap.size]? = some (.cells a.cells.toArray 32 (0, 0)) := heap_at _ _ _ rfl
        have hKW := hK.keep ((Below.refl _ _).alloc (Nat.le_refl _) (.cells a.cells.toArray 32))
        have hBW := hB.alloc hK.size (.cells a.cells.toArray 32)
        rw [hW] at hQ hBW hKW hQb
        have hW' := hid hW
        have hBW' := hid hBW
        have hB' := hid hB
        have hA' := hid hA
        have hKW' := hid hKW
        have hQb' := hid hQb
        have hcr := hid (act_hash hQ)
        have c0 : W.cell? ⟨wr.heap.size, 0, none⟩ = some (.int .i64 a.kind) := hQ.cell 0
        have c1' : W.cell? ⟨wr.heap.size, 1, none⟩ = some (.int .i64 a.x) := hQ.cell 1
        have c2 : W.cell? ⟨wr.heap.size, 2, none⟩ = some (.int .i64 a.size) := hQ.cell 2
        have c3 : W.cell? ⟨wr.heap.size, 3, none⟩ = some (.string a.s) := hQ.cell 3
        obtain ⟨s', k, hk⟩ : ∃ s' k, addPiece (wireOf ds) (pieceOf a) = (s', k) := ⟨_, _, rfl⟩
        have hs' := addPiece_size hk hK.fits
        have hdone := hid (add_done hk)
        have hk' := hid hk
        have hd40 : ds.length ≤ 40 := by omega
        clear hcs hfine hlen hW hBW hB hA hjl hQ hK hKW hQb hk hb0
        by_cases hk4 : a.kind < 4
        · skip
          have q4 : decide (a.kind < 4) = true := by simpa using hk4
          have hkp : addPiece (wireOf ds) (numPiece a.x a.size) = (s', k) := by have h := hk'.out; rwa [show pieceOf a = (numPiece a.x a.size) from by unfold pieceOf; rw [if_pos hk4]] at h
          have hkp' := hid hkp
          clear hkp hk4
          go_wp2_with (first
            | ((with_reducible refine at_slot (some 33) ?_); refine wpList_load_at rfl 32 (.tmp 32) rfl (pp.add (j * 36)) rfl a.cells _ hcs1.out Try.underlying32 rfl (by rw [Try.sizeAct, hla.out]) ?_)
            | ((with_reducible refine at_slot (some 6) ?_); refine wpList_alloc_row rfl 32 rfl ia _ hai haz zAct rfl ?_)
            | ((with_reducible refine at_slot none ?_); refine wpList_store_row rfl 32 (.tmp 6) (.tmp 33) rfl wr.heap.size a.cells.toArray rfl rfl 32 zAct (heap_alloc_new _ _) (by rw [Try.sizeAct, List.size_toArray, hla.out]) hzs.out (all_oneCell_toArray a.one) ?_; rw [World.setRow_alloc_new, hW'.out]))
          refine (back_step hKW'.out hs' (fun r hr => WNum_any a.x a.size _ (wireOf ds) r _ hr hKW'.out.fits s' k hkp'.out)).mono ?_
          rintro e W2 ⟨rfl, hK2, hb2, hkeep⟩
          have hB2 := hid (hBW'.out.trans hb2)
          have hq2 := hid (hkeep _ _ hQb'.out)
          have hK2' := hid hK2
          clear c0 c1' c2 c3 hb2 hkeep hK2
          rcases hdone.out with ⟨rfl, hsome, hsp⟩ | ⟨hk0, hsp⟩
          · have hsp' := hid (hsp.trans (wireOf_snoc ds a).symm)
            have hsome' := hid hsome
            clear hsp hsome
            have hl1 : (a.cells.toArray).size = 36 := by rw [List.size_toArray]; exact hla.out
            have hl1' := hid hl1
            clear hl1
            have hown0 := (hK2'.out.keep ((Below.refl _ _).alloc (Nat.le_refl _) (.cells a.cells.toArray 32))).own
            have hBsz := hK2'.out.size
            go_wp2_with (first
              | (go_at_call 15; refine (errNum_any _ _).mono ?_; rintro e w' ⟨rfl, rfl⟩)
              | ((with_reducible refine at_slot (some 62) ?_); refine wpList_load_row rfl 32 (.tmp 6) rfl wr.heap.size rfl 32 a.cells.toArray (0, 0) _ hq2.out Try.underlying32 rfl (by rw [Try.sizeAct, hl1'.out]) ?_)
              | ((with_reducible refine at_slot (some 63) ?_); refine wpList_buildSlice_one rfl 22 32 (.tmp 62) rfl i3 (.agg zAct) Try.underlying22 h3i h3z a.cells.toArray rfl (by rw [h3s, hl1'.out]) (by rw [hl1'.out]; omega) (by rw [hl1'.out]; omega) ?_)
              | ((with_reducible refine at_slot (some 64) ?_); refine wpList_appends rfl (.tmp 61) (.tmp 63) 22 32 rfl w.heap.size i3 (.agg zAct) 36 72 Try.underlying22 h3i h3z h3s h3b (by kernel_rfl) (by omega) A1 ds.length c1 (flat ds) (W2.heap.size + 1) (some ⟨W2.heap.size, 0, none⟩) 1 1 a.cells rfl rfl (fun h => by cases h) a.one (by omega) (by omega) hown0 ⟨by rw [hla.out], .inr ⟨_, rfl, by simp, fun i hi => ?_⟩⟩ (by simp; omega) ?_; rotate_right; intro A2 c2 W3 hown3 hb3 hg3; rotate_left; exact act_new W2 a i hi))
            go_roundw
            case rel =>
              have hK3 := (hK2'.out.keep ((Below.refl _ _).alloc (Nat.le_refl _) (.cells a.cells.toArray 32))).push a hf1.out hsome'.out hown3 hg3
              rw [hsp'.out] at hK3
              exact ⟨j + 1, ds ++ [a], A2, c2, by go_num, by omega, by omega, by simp, by simp; omega, hK3, (hB2.out.alloc hBsz _).trans hb3⟩
            case measure => simp [intOf]; omega
          · subst hsp
            have q0 : (k == 0) = false := by simpa using hk0
            clear hk0
            go_wp2_with (go_at_call 15; refine (errNum_any _ _).mono ?_; rintro e w' ⟨rfl, rfl⟩)
            go_roundw
            case rel => exact ⟨j + 1, ds, A1, c1, by go_num, by omega, by omega, rfl, by omega, hK2'.out, hB2.out⟩
            case measure => simp [intOf]; omega
        · by_cases hk7 : a.kind < 7
          · skip
            have q4 : decide (a.kind < 4) = false := by simpa using hk4
            have q7 : decide (a.kind < 7) = true := by simpa using hk7
            have hkp : addPiece (wireOf ds) (textPiece a.s a.size) = (s', k) := by have h := hk'.out; rwa [show pieceOf a = (textPiece a.s a.size) from by unfold pieceOf; rw [if_neg hk4, if_pos hk7]] at h
            have hkp' := hid hkp
            clear hkp hk4 hk7
            go_wp2_with (first
              | ((with_reducible refine at_slot (some 33) ?_); refine wpList_load_at rfl 32 (.tmp 32) rfl (pp.add (j * 36)) rfl a.cells _ hcs1.out Try.underlying32 rfl (by rw [Try.sizeAct, hla.out]) ?_)
              | ((with_reducible refine at_slot (some 6) ?_); refine wpList_alloc_row rfl 32 rfl ia _ hai haz zAct rfl ?_)
              | ((with_reducible refine at_slot none ?_); refine wpList_store_row rfl 32 (.tmp 6) (.tmp 33) rfl wr.heap.size a.cells.toArray rfl rfl 32 zAct (heap_alloc_new _ _) (by rw [Try.sizeAct, List.size_toArray, hla.out]) hzs.out (all_oneCell_toArray a.one) ?_; rw [World.setRow_alloc_new, hW'.out]))
            refine (back_step hKW'.out hs' (fun r hr => WText_any a.s hf1.out.2 a.size _ (wireOf ds) r _ hr hKW'.out.fits s' k hkp'.out)).mono ?_
            rintro e W2 ⟨rfl, hK2, hb2, hkeep⟩
            have hB2 := hid (hBW'.out.trans hb2)
            have hq2 := hid (hkeep _ _ hQb'.out)
            have hK2' := hid hK2
            clear c0 c1' c2 c3 hb2 hkeep hK2
            rcases hdone.out with ⟨rfl, hsome, hsp⟩ | ⟨hk0, hsp⟩
            · have hsp' := hid (hsp.trans (wireOf_snoc ds a).symm)
              have hsome' := hid hsome
              clear hsp hsome
              have hl1 : (a.cells.toArray).size = 36 := by rw [List.size_toArray]; exact hla.out
              have hl1' := hid hl1
              clear hl1
              have hown0 := (hK2'.out.keep ((Below.refl _ _).alloc (Nat.le_refl _) (.cells a.cells.toArray 32))).own
              have hBsz := hK2'.out.size
              go_wp2_with (first
                | (go_at_call 15; refine (errNum_any _ _).mono ?_; rintro e w' ⟨rfl, rfl⟩)
                | ((with_reducible refine at_slot (some 62) ?_); refine wpList_load_row rfl 32 (.tmp 6) rfl wr.heap.size rfl 32 a.cells.toArray (0, 0) _ hq2.out Try.underlying32 rfl (by rw [Try.sizeAct, hl1'.out]) ?_)
                | ((with_reducible refine at_slot (some 63) ?_); refine wpList_buildSlice_one rfl 22 32 (.tmp 62) rfl i3 (.agg zAct) Try.underlying22 h3i h3z a.cells.toArray rfl (by rw [h3s, hl1'.out]) (by rw [hl1'.out]; omega) (by rw [hl1'.out]; omega) ?_)
                | ((with_reducible refine at_slot (some 64) ?_); refine wpList_appends rfl (.tmp 61) (.tmp 63) 22 32 rfl w.heap.size i3 (.agg zAct) 36 72 Try.underlying22 h3i h3z h3s h3b (by kernel_rfl) (by omega) A1 ds.length c1 (flat ds) (W2.heap.size + 1) (some ⟨W2.heap.size, 0, none⟩) 1 1 a.cells rfl rfl (fun h => by cases h) a.one (by omega) (by omega) hown0 ⟨by rw [hla.out], .inr ⟨_, rfl, by simp, fun i hi => ?_⟩⟩ (by simp; omega) ?_; rotate_right; intro A2 c2 W3 hown3 hb3 hg3; rotate_left; exact act_new W2 a i hi))
              go_roundw
              case rel =>
                have hK3 := (hK2'.out.keep ((Below.refl _ _).alloc (Nat.le_refl _) (.cells a.cells.toArray 32))).push a hf1.out hsome'.out hown3 hg3
                rw [hsp'.out] at hK3
                exact ⟨j + 1, ds ++ [a], A2, c2, by go_num, by omega, by omega, by simp, by simp; omega, hK3, (hB2.out.alloc hBsz _).trans hb3⟩
              case measure => simp [intOf]; omega
            · subst hsp
              have q0 : (k == 0) = false := by simpa using hk0
              clear hk0
              go_wp2_with (go_at_call 15; refine (errNum_any _ _).mono ?_; rintro e w' ⟨rfl, rfl⟩)
              go_roundw
              case rel => exact ⟨j + 1, ds, A1, c1, by go_num, by omega, by omega, rfl, by omega, hK2'.out, hB2.out⟩
              case measure => simp [intOf]; omega
          · skip
            have q4 : decide (a.kind < 4) = false := by simpa using hk4
            have q7 : decide (a.kind < 7) = false := by simpa using hk7
            have hh := hid (hashOf_act hf1.out)
            have hkp : addPiece (wireOf ds) (some a.h) = (s', k) := by have h := hk'.out; rwa [show pieceOf a = (some a.h) from by unfold pieceOf; rw [if_neg hk4, if_neg hk7]] at h
            have hkp' := hid hkp
            clear hkp hk4 hk7
            go_wp2_with (first
              | ((with_reducible refine at_slot (some 33) ?_); refine wpList_load_at rfl 32 (.tmp 32) rfl (pp.add (j * 36)) rfl a.cells _ hcs1.out Try.underlying32 rfl (by rw [Try.sizeAct, hla.out]) ?_)
              | ((with_reducible refine at_slot (some 6) ?_); refine wpList_alloc_row rfl 32 rfl ia _ hai haz zAct rfl ?_)
              | ((with_reducible refine at_slot none ?_); refine wpList_store_row rfl 32 (.tmp 6) (.tmp 33) rfl wr.heap.size a.cells.toArray rfl rfl 32 zAct (heap_alloc_new _ _) (by rw [Try.sizeAct, List.size_toArray, hla.out]) hzs.out (all_oneCell_toArray a.one) ?_; rw [World.setRow_alloc_new, hW'.out])
              | ((with_reducible refine at_slot (some 36) ?_); refine wpList_load_at rfl 30 (.tmp 35) rfl ⟨wr.heap.size, 4, none⟩ rfl (strCells a.h) _ hcr.out Try.underlying30 rfl (by rw [Try.infoHash, strCells_length, hf1.out.1]) ?_))
            refine (back_step hKW'.out hs' (fun r hr => WHash_any _ a.h hh.out _ (wireOf ds) r _ hr hKW'.out.fits s' k hkp'.out)).mono ?_
            rintro e W2 ⟨rfl, hK2, hb2, hkeep⟩
            have hB2 := hid (hBW'.out.trans hb2)
            have hq2 := hid (hkeep _ _ hQb'.out)
            have hK2' := hid hK2
            clear c0 c1' c2 c3 hb2 hkeep hK2
            rcases hdone.out with ⟨rfl, hsome, hsp⟩ | ⟨hk0, hsp⟩
            · have hsp' := hid (hsp.trans (wireOf_snoc ds a).symm)
              have hsome' := hid hsome
              clear hsp hsome
              have hl1 : (a.cells.toArray).size = 36 := by rw [List.size_toArray]; exact hla.out
              have hl1' := hid hl1
              clear hl1
              have hown0 := (hK2'.out.keep ((Below.refl _ _).alloc (Nat.le_refl _) (.cells a.cells.toArray 32))).own
              have hBsz := hK2'.out.size
              go_wp2_with (first
                | (go_at_call 15; refine (errNum_any _ _).mono ?_; rintro e w' ⟨rfl, rfl⟩)
                | ((with_reducible refine at_slot (some 62) ?_); refine wpList_load_row rfl 32 (.tmp 6) rfl wr.heap.size rfl 32 a.cells.toArray (0, 0) _ hq2.out Try.underlying32 rfl (by rw [Try.sizeAct, hl1'.out]) ?_)
                | ((with_reducible refine at_slot (some 63) ?_); refine wpList_buildSlice_one rfl 22 32 (.tmp 62) rfl i3 (.agg zAct) Try.underlying22 h3i h3z a.cells.toArray rfl (by rw [h3s, hl1'.out]) (by rw [hl1'.out]; omega) (by rw [hl1'.out]; omega) ?_)
                | ((with_reducible refine at_slot (some 64) ?_); refine wpList_appends rfl (.tmp 61) (.tmp 63) 22 32 rfl w.heap.size i3 (.agg zAct) 36 72 Try.underlying22 h3i h3z h3s h3b (by kernel_rfl) (by omega) A1 ds.length c1 (flat ds) (W2.heap.size + 1) (some ⟨W2.heap.size, 0, none⟩) 1 1 a.cells rfl rfl (fun h => by cases h) a.one (by omega) (by omega) hown0 ⟨by rw [hla.out], .inr ⟨_, rfl, by simp, fun i hi => ?_⟩⟩ (by simp; omega) ?_; rotate_right; intro A2 c2 W3 hown3 hb3 hg3; rotate_left; exact act_new W2 a i hi))
              go_roundw
              case rel =>
                have hK3 := (hK2'.out.keep ((Below.refl _ _).alloc (Nat.le_refl _) (.cells a.cells.toArray 32))).push a hf1.out hsome'.out hown3 hg3
                rw [hsp'.out] at hK3
                exact ⟨j + 1, ds ++ [a], A2, c2, by go_num, by omega, by omega, by simp, by simp; omega, hK3, (hB2.out.alloc hBsz _).trans hb3⟩
              case measure => simp [intOf]; omega
            · subst hsp
              have q0 : (k == 0) = false := by simpa using hk0
              clear hk0
              go_wp2_with (go_at_call 15; refine (errNum_any _ _).mono ?_; rintro e w' ⟨rfl, rfl⟩)
              go_roundw
              case rel => exact ⟨j + 1, ds, A1, c1, by go_num, by omega, by omega, rfl, by omega, hK2'.out, hB2.out⟩
              case measure => simp [intOf]; omega
    · obtain ⟨wo, rfl⟩ : ∃ wo : World, wo = wr := ⟨_, rfl⟩
      obtain ⟨r, hr, hrB⟩ := hK.wr
      have cA := hid (WAll_any W0.heap.size (wireOf ds) r wo hr)
      have hB' := hid hB
      have hK' := hid hK
      have hA' := hid hA
      have hd40 : ds.length ≤ 40 := by omega
      have hd63 : ds.length ≤ 9223372036854775807 := by omega
      clear hr hrB hB hK hA hb0
      by_cases hlt1 : j < n
      all_goals
        (try have h40 : ¬ j < 40 := by omega)
        clear hlt hj1 hj2 hdj
        go_wp2_with fail
        refine cA.out.mono ?_
        rintro e w' ⟨rfl, rfl⟩
        clear hlt1
        (try clear h40)
        go_wp2_with fail
        refine (wireOpen_any (wireOf ds) _).mono ?_
        rintro e V ⟨rfl, rfl⟩
        go_wp2_with fail
        go_loopw [9] (fun i wq => ∃ (m : Nat), i = .int .i64 m ∧ m ≤ ds.length ∧ Rd wq wo.heap.size (wireOf (ds.drop m)) ∧ wq.ownsRow w.heap.size 32 36 (.slice A1 ds.length c1) ds.length (flat ds) ∧ Below w.heap.size w wq) (fun i _ => ds.length - (intOf i).toNat)
        case atStart => exact ⟨0, rfl, Nat.zero_le _, Rd.fresh wo (wireOf ds), hK'.out.own.alloc _, hB'.out.alloc hK'.out.size _⟩
        case round =>
        obtain ⟨m, rfl, hm, hRd, hown, hBr⟩ := hrel
        by_cases hml : m < ds.length
        · obtain ⟨pq, rfl, hpc⟩ := own_acts (fun d hd => (hK'.out.ok d hd).1) hown (by omega)
          have hcs1 := hid (hpc m hml)
          have hf1 := hid (hK'.out.ok _ (List.getElem_mem hml)).1
          have hds := (hK'.out.ok _ (List.getElem_mem hml)).2
          have hdrop := wireOf_drop ds m hml
          have hsz0 := wireOf_drop_size ds m
          have hfit := hK'.out.fits
          rw [hdrop] at hRd hsz0
          generalize hnx : wireOf (ds.drop (m + 1)) = l2 at *
          have hnx' := hid hnx
          generalize ds[m] = a at *
          have hsz := hid (show ((pieceOf a).getD ByteArray.empty ++ l2).size ≤ 140737488355328 by omega)
          have hla := hid (ActOf.len hf1.out)
          have hzs : Hid (zAct.size = a.cells.toArray.size) := hid (by show 36 = a.cells.length; exact hla.out.symm)
          obtain ⟨W, hW⟩ : ∃ W, wr.alloc (.cells a.cells.toArray 32) = W := ⟨_, rfl⟩
          have hg2q := Holds.lt hRd
          have hQ := Holds.new wr 32 a.cells.toArray
          have hRdW : Rd W wo.heap.size ((pieceOf a).getD ByteArray.empty ++ l2) := by rw [← hW]; exact Holds.alloc hRd _
          have hownW : W.ownsRow w.heap.size 32 36 (.slice (some pq) ds.length c1) ds.length (flat ds) := by rw [← hW]; exact hown.alloc _
          have hBW := hBr.alloc hBr.size (.cells a.cells.toArray 32)
          rw [hW] at hQ hBW
          have hW' := hid hW
          have hBW' := hid hBW
          have hQ' := hid hQ
          have hRdW' := hid hRdW
          have hownW' := hid hownW
          have hg2B := hid hK'.out.size
          have c0 : W.cell? ⟨wr.heap.size, 0, none⟩ = some (.int .i64 a.kind) := hQ.cell 0
          have c1' : W.cell? ⟨wr.heap.size, 1, none⟩ = some (.int .i64 a.x) := hQ.cell 1
          have c2 : W.cell? ⟨wr.heap.size, 2, none⟩ = some (.int .i64 a.size) := hQ.cell 2
          have c3 : W.cell? ⟨wr.heap.size, 3, none⟩ = some (.string a.s) := hQ.cell 3
          clear hpc hdrop hsz0 hfit hnx hW hBW hQ hRdW hownW hRd hown hBr
          by_cases hk4 : a.kind < 4
          · skip
            have q4 : decide (a.kind < 4) = true := by simpa using hk4
            have hrd := hid (piece_num hk4 hds l2)
            clear hk4 hds
            go_wp2_with (first
              | ((with_reducible refine at_slot (some 77) ?_); refine wpList_load_at rfl 32 (.tmp 76) rfl (pq.add (m * 36)) rfl a.cells _ hcs1.out Try.underlying32 rfl (by rw [Try.sizeAct, hla.out]) ?_)
              | ((with_reducible refine at_slot (some 10) ?_); refine wpList_alloc_row rfl 32 rfl ia _ hai haz zAct rfl ?_)
              | ((with_reducible refine at_slot none ?_); refine wpList_store_row rfl 32 (.tmp 10) (.tmp 77) rfl wr.heap.size a.cells.toArray rfl rfl 32 zAct (heap_alloc_new _ _) (by rw [Try.sizeAct, List.size_toArray, hla.out]) hzs.out (all_oneCell_toArray a.one) ?_; rw [World.setRow_alloc_new, hW'.out]))
            refine (RNum_any _ _ a.size W hRdW'.out _ _ _ hrd.out).mono ?_
            rintro e W1 ⟨rfl, m1, n1⟩
            have hQ1 := hid (Holds.grown hQ'.out n1 (by simp; omega))
            have own1 := hid (own_other hownW'.out hRdW'.out n1)
            have hB1 := hid (below_of_only hBW'.out n1 hg2B.out hBW'.out.size)
            have d1 : W1.cell? ⟨wr.heap.size, 1, none⟩ = some (.int .i64 a.x) := hQ1.out.cell 1
            clear n1 c0 c1' c2 c3
            go_wp2_with (first
              | (go_at_call 15; refine (errNum_any _ _).mono ?_; rintro e w' ⟨rfl, rfl⟩))
            go_roundw
            case rel => exact ⟨m + 1, by go_num, by omega, by rw [hnx'.out]; exact m1, own1.out, hB1.out⟩
            case measure => simp [intOf]; omega
          · by_cases hk7 : a.kind < 7
            · skip
              have q4 : decide (a.kind < 4) = false := by simpa using hk4
              have q7 : decide (a.kind < 7) = true := by simpa using hk7
              have hrd := hid (piece_text hk4 hk7 hds l2)
              clear hk4 hk7 hds
              go_wp2_with (first
                | ((with_reducible refine at_slot (some 77) ?_); refine wpList_load_at rfl 32 (.tmp 76) rfl (pq.add (m * 36)) rfl a.cells _ hcs1.out Try.underlying32 rfl (by rw [Try.sizeAct, hla.out]) ?_)
                | ((with_reducible refine at_slot (some 10) ?_); refine wpList_alloc_row rfl 32 rfl ia _ hai haz zAct rfl ?_)
                | ((with_reducible refine at_slot none ?_); refine wpList_store_row rfl 32 (.tmp 10) (.tmp 77) rfl wr.heap.size a.cells.toArray rfl rfl 32 zAct (heap_alloc_new _ _) (by rw [Try.sizeAct, List.size_toArray, hla.out]) hzs.out (all_oneCell_toArray a.one) ?_; rw [World.setRow_alloc_new, hW'.out]))
              refine (RText_any _ _ hsz.out a.size W hRdW'.out _ _ _ hrd.out).mono ?_
              rintro e W1 ⟨rfl, m1, n1⟩
              have hQ1 := hid (Holds.grown hQ'.out n1 (by simp; omega))
              have own1 := hid (own_other hownW'.out hRdW'.out n1)
              have hB1 := hid (below_of_only hBW'.out n1 hg2B.out hBW'.out.size)
              have d3 : W1.cell? ⟨wr.heap.size, 3, none⟩ = some (.string a.s) := hQ1.out.cell 3
              clear n1 c0 c1' c2 c3
              go_wp2_with (first
                | (go_at_call 15; refine (errNum_any _ _).mono ?_; rintro e w' ⟨rfl, rfl⟩))
              go_roundw
              case rel => exact ⟨m + 1, by go_num, by omega, by rw [hnx'.out]; exact m1, own1.out, hB1.out⟩
              case measure => simp [intOf]; omega
            · skip
              have q4 : decide (a.kind < 4) = false := by simpa using hk4
              have q7 : decide (a.kind < 7) = false := by simpa using hk7
              have hrd := hid (piece_hash hk4 hk7 hf1.out l2)
              clear hk4 hk7 hds
              go_wp2_with (first
                | ((with_reducible refine at_slot (some 77) ?_); refine wpList_load_at rfl 32 (.tmp 76) rfl (pq.add (m * 36)) rfl a.cells _ hcs1.out Try.underlying32 rfl (by rw [Try.sizeAct, hla.out]) ?_)
                | ((with_reducible refine at_slot (some 10) ?_); refine wpList_alloc_row rfl 32 rfl ia _ hai haz zAct rfl ?_)
                | ((with_reducible refine at_slot none ?_); refine wpList_store_row rfl 32 (.tmp 10) (.tmp 77) rfl wr.heap.size a.cells.toArray rfl rfl 32 zAct (heap_alloc_new _ _) (by rw [Try.sizeAct, List.size_toArray, hla.out]) hzs.out (all_oneCell_toArray a.one) ?_; rw [World.setRow_alloc_new, hW'.out]))
              refine (RHash_any _ _ W hRdW'.out _ _ _ hrd.out).mono ?_
              rintro e W1 ⟨rfl, m1, n1⟩
              have hQ1 := hid (Holds.grown hQ'.out n1 (by simp; omega))
              have own1 := hid (own_other hownW'.out hRdW'.out n1)
              have hB1 := hid (below_of_only hBW'.out n1 hg2B.out hBW'.out.size)
              obtain ⟨V2, hV2⟩ : ∃ V, W1.alloc (.cells (strCells a.h).toArray 30) = V := ⟨_, rfl⟩
              have hV2' := hid hV2
              have hsame := hash_same a.h hf1.out.1
              have hH := hid (hashOf_act hf1.out)
              have hl32 := hid hH.out.len
              have u1 := hid (by rw [← hV2]; exact heap_at _ _ _ rfl : V2.heap[W1.heap.size]? = some (.cells (strCells a.h).toArray 30 (0, 0)))
              have u2 := hid (act_hash (by rw [← hV2]; exact Holds.alloc hQ1.out _ : Holds V2 wr.heap.size 32 a.cells.toArray.toList))
              have m1v := hid (by rw [← hV2]; exact Holds.alloc m1 _ : Rd V2 wo.heap.size l2)
              have own2 := hid (by rw [← hV2]; exact own1.out.alloc _ : V2.ownsRow w.heap.size 32 36 (.slice (some pq) ds.length c1) ds.length (flat ds))
              have hB2 := hid (by rw [← hV2]; exact hB1.out.alloc hB1.out.size _ : Below w.heap.size w V2)
              clear hV2
              clear n1 c0 c1' c2 c3
              go_wp2_with (first
                | ((with_reducible refine at_slot (some 15) ?_); refine wpList_alloc_row rfl 30 rfl ih _ hhi hhz z32 rfl ?_)
                | ((with_reducible refine at_slot none ?_); refine wpList_store_row rfl 30 (.tmp 15) (.tmp 81) rfl W1.heap.size (strCells a.h).toArray rfl rfl 30 z32 (heap_alloc_new _ _) (by rw [Try.infoHash, hl32.out]) (by rw [hl32.out]; rfl) hH.out.one ?_; rw [World.setRow_alloc_new, hV2'.out])
                | ((with_reducible refine at_slot (some 83) ?_); refine wpList_load_row rfl 30 (.tmp 15) rfl W1.heap.size rfl 30 (strCells a.h).toArray (0, 0) _ u1.out Try.underlying30 rfl (by rw [Try.infoHash, hl32.out]) ?_)
                | ((with_reducible refine at_slot (some 85) ?_); refine wpList_load_at rfl 30 (.tmp 84) rfl ⟨wr.heap.size, 4, none⟩ rfl (strCells a.h) _ u2.out Try.underlying30 rfl (by rw [Try.infoHash, strCells_length, hf1.out.1]) ?_)
                | (go_at_call 15; refine (errNum_any _ _).mono ?_; rintro e w' ⟨rfl, rfl⟩))
              go_roundw
              case rel => exact ⟨m + 1, by go_num, by omega, by rw [hnx'.out]; exact m1v.out, own2.out, hB2.out⟩
              case measure => simp [intOf]; omega
        · obtain rfl : m = ds.length := by omega
          have e0 : wireOf (ds.drop ds.length) = ByteArray.empty := by rw [List.drop_length]; rfl
          rw [e0] at hRd
          have hBr' := hid hBr
          have cL := hid (RLeft_any wo.heap.size ByteArray.empty wr hRd)
          clear hRd hown hBr hm hml e0
          go_wp2_with fail
          refine cL.out.mono ?_
          rintro e w' ⟨rfl, rfl⟩
          go_wp2
          go_ret
          exact ⟨rfl, hBr'.out⟩

end Go.Proofs.Ytlbmlnefglgonab
