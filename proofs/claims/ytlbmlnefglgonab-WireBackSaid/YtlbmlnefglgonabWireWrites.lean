/- The statement WireWrites: its walk. -/
import Derived.Test.YtlbmlnefglgonabPair
import Derived.Test.YtlbmlnefglgonabActs
import Derived.Test.YtlbmlnefglgonabAwake3
import Derived.Deep.RegionWith
import Derived.Deep.RegionHeld3
namespace Go.Proofs.Ytlbmlnefglgonab
open Go.RowKit
open Go.Lib (strCells strCells_length strCells_oneCell)

def zAct : Array Value := (ActOf.cells ⟨0, 0, 0, ByteArray.empty, noHash⟩).toArray
theorem Try.infoAct : (Try.prog.info? 32).map (fun i => (i.zero, i.size)) = some (some (.agg zAct), 36) := by kernel_rfl
theorem Try.sizeAct : (Try.prog.info? 32).map (·.size) = some 36 := by kernel_rfl

theorem info_two {P : Program} {t : TypeId} {z : Value} {n : Nat} (h : (P.info? t).map (fun i => (i.zero, i.size)) = some (some z, n)) : ∃ i, P.info? t = some i ∧ i.zero = some z ∧ i.size = n := by
  obtain ⟨i, hi, he⟩ := Option.map_eq_some_iff.1 h
  exact ⟨i, hi, (Prod.mk.inj he).1, (Prod.mk.inj he).2⟩

theorem hashOf_act {a : ActOf} (h : a.fine) : HashOf (strCells a.h).toArray a.h := ⟨rfl, h.1⟩

theorem act_hash {W : World} {q : Nat} {t : TypeId} {a : ActOf} (h : Holds W q t a.cells.toArray.toList) : ∀ j v, (strCells a.h)[j]? = some v → W.cell? ((⟨q, 4, none⟩ : Addr).add j) = some v := by
  intro j v hv
  rw [Addr.add_mid, h.cell]
  show a.cells[4 + j]? = some v
  unfold ActOf.cells
  rw [List.getElem?_append_right (by simp)]
  simpa using hv

theorem act_range {W : World} {q : Nat} {t : TypeId} {a : ActOf} (h : Holds W q t a.cells.toArray.toList) : W.rangeAt q 4 (strCells a.h) := by
  intro j v hv
  have := act_hash h j v hv
  rwa [Addr.add_mid] at this

set_option maxRecDepth 100000 in
set_option maxHeartbeats 4000000 in
theorem WireWrites_law (A : Option Addr) (n c : Nat) (xs : List ActOf) (w : World) (hA : Acts w w.heap.size A n xs) (hn : n ≤ maxLen) :
    Calls Try.prog 3 #[.slice A n c] w fun e w' => e = .returned (.bool true) ∧ Below w.heap.size w w' := by
  obtain ⟨ia, hai, haz, has⟩ := info_two Try.infoAct
  unfold maxLen at hn
  go_enter Try.func3, Try.ntmps3
  go_wp2_with fail
  refine (wireNew_any _).mono ?_
  rintro e W0 ⟨rfl, rfl⟩
  go_wp2_with fail
  go_loopw [5] (fun i wr => ∃ (j : Nat) (s : ByteArray), i = .int .i64 j ∧ j ≤ n ∧ j ≤ 60 ∧ Pair wr w.heap.size w.heap.size 92 s (w.heap.size + 1) 28 s ∧ s.size ≤ 65536 ∧ Below w.heap.size w wr) (fun i _ => 60 - (intOf i).toNat)
  case atStart =>
    refine ⟨0, ByteArray.empty, rfl, Nat.zero_le _, by omega, ?_, by decide, ((Below.refl _ _).alloc (Nat.le_refl _) _).alloc (by simp) _⟩
    refine ⟨by simp; omega, Nat.le_refl _, by omega, by omega, none, none, (Wr.fresh w).alloc _, ?_, by simp, by simp, .inl rfl, by simp, by simp⟩
    refine ⟨none, 0, ?_, World.ownsRow_nil _ _ _ _, rfl, by simp⟩
    have := Holds.new (w.alloc (.cells #[.slice none 0 0] 92)) 28 #[.slice none 0 0]
    rwa [alloc_size] at this
  case round =>
    obtain ⟨j, s, rfl, hj1, hj2, hP, hsz, hB⟩ := hrel
    by_cases hlt : j < n ∧ j < 60
    · obtain ⟨hlt1, hlt2⟩ := hlt
      obtain ⟨hlen, hfine, h0 | ⟨p, rfl, hpB, hcs⟩⟩ := hA.below hB
      · omega
      · have hjl : j < xs.length := by omega
        have hcs1 := hid (hcs j hjl)
        have hf1 := hid (hfine _ (List.getElem_mem hjl))
        generalize xs[j] = a at *
        have hl := hid (ActOf.len hf1.out)
        have hzs : Hid (zAct.size = a.cells.toArray.size) := hid (by show 36 = a.cells.length; exact hl.out.symm)
        obtain ⟨W, hW⟩ : ∃ W, wr.alloc (.cells a.cells.toArray 32) = W := ⟨_, rfl⟩
        have hQ := hP.with a.cells.toArray 32
        have hBW := hB.alloc hP.1 (.cells a.cells.toArray 32)
        rw [hW] at hQ hBW
        have hW' := hid hW
        have hBW' := hid hBW
        have hB' := hid hB
        have hA' := hid hA
        have hP' := hid hP
        have c0 : W.cell? ⟨wr.heap.size, 0, none⟩ = some (.int .i64 a.kind) := hQ.holds.cell 0
        have c1 : W.cell? ⟨wr.heap.size, 1, none⟩ = some (.int .i64 a.x) := hQ.holds.cell 1
        have c2 : W.cell? ⟨wr.heap.size, 2, none⟩ = some (.int .i64 a.size) := hQ.holds.cell 2
        have c3 : W.cell? ⟨wr.heap.size, 3, none⟩ = some (.string a.s) := hQ.holds.cell 3
        clear hcs hfine hlen hW hBW hB hA hP hjl
        by_cases hk4 : a.kind < 4
        · skip
          have q4 : decide (a.kind < 4) = true := by simpa using hk4
          clear hk4
          obtain ⟨s', k, hk⟩ : ∃ s' k, addPiece s (numPiece a.x a.size) = (s', k) := ⟨_, _, rfl⟩
          have hs' := addPiece_size hk hsz
          have hk' := hid hk
          clear hk
          go_wp2_with (first
            | ((with_reducible refine at_slot (some 27) ?_); refine wpList_load_at rfl 32 (.tmp 26) rfl (p.add (j * 36)) rfl a.cells _ hcs1.out Try.underlying32 rfl (by rw [Try.sizeAct, hl.out]) ?_)
            | ((with_reducible refine at_slot (some 6) ?_); refine wpList_alloc_row rfl 32 rfl ia _ hai haz zAct rfl ?_)
            | ((with_reducible refine at_slot none ?_); refine wpList_store_row rfl 32 (.tmp 6) (.tmp 27) rfl wr.heap.size a.cells.toArray rfl rfl 32 zAct (heap_alloc_new _ _) (by rw [Try.sizeAct, List.size_toArray, hl.out]) hzs.out (all_oneCell_toArray a.one) ?_; rw [World.setRow_alloc_new, hW'.out]))
          refine (pairQ_step hQ (fun r hr => WNum_any a.x a.size _ s r _ hr hsz s' k hk'.out)).mono ?_
          rintro e W2 ⟨rfl, hQ2, hb2⟩
          have d1 : W2.cell? ⟨wr.heap.size, 1, none⟩ = some (.int .i64 a.x) := hQ2.holds.cell 1
          have d2 : W2.cell? ⟨wr.heap.size, 2, none⟩ = some (.int .i64 a.size) := hQ2.holds.cell 2
          clear c0 c1 c2 c3
          have c16 := hid (fun W (hq : PairQ W w.heap.size w.heap.size 92 s' (w.heap.size + 1) 28 s wr.heap.size 32 a.cells.toArray.toList) => pairQ_step hq.swap (fun r hr => refNum_any a.x a.size _ s r _ hr hsz s' k hk'.out))
          go_wp2_with fail
          go_region_held3 (fun w' => w'.cell? ⟨wr.heap.size, 1, none⟩ = some (.int .i64 a.x) ∧ w'.cell? ⟨wr.heap.size, 2, none⟩ = some (.int .i64 a.size)) (first | exact ⟨d1, d2⟩ | exact ⟨hQ3.holds.cell 1, hQ3.holds.cell 2⟩)
            (first
              | (go_at_call 15; refine (errNum_any _ _).mono ?_; rintro e w' ⟨rfl, rfl⟩)
              | (go_at_call 16; refine (c16.out _ ?_).mono ?_; exact hQ2; rintro e W3 ⟨rfl, hQ3, hb3⟩))
          have cA1 := hid (pair_all hQ3.pair.swap (fun r hr => WAll_any _ _ r _ hr))
          have cA2 := hid (pair_all hQ3.pair (fun r hr => refAll_any _ _ r _ hr))
          have hQ4 := hid hQ3
          have hB4 := hid ((hBW'.out.trans hb2).drew.trans hb3)
          clear hQ hQ2 hQ3 hb2 hb3
          go_wp2_with (first
            | (go_at_call 21; refine cA1.out.mono ?_; rintro e w' ⟨rfl, rfl⟩)
            | (go_at_call 22; refine cA2.out.mono ?_; rintro e w' ⟨rfl, rfl⟩))
          go_roundw
          case rel => exact ⟨j + 1, s', by go_num, by omega, by omega, hQ4.out.pair.swap, hs', hB4.out⟩
          case measure => simp [intOf]; omega
        · by_cases hk7 : a.kind < 7
          · skip
            have q4 : decide (a.kind < 4) = false := by simpa using hk4
            have q7 : decide (a.kind < 7) = true := by simpa using hk7
            have hss := hf1.out.2
            clear hk4 hk7
            obtain ⟨s', k, hk⟩ : ∃ s' k, addPiece s (textPiece a.s a.size) = (s', k) := ⟨_, _, rfl⟩
            have hs' := addPiece_size hk hsz
            have hk' := hid hk
            clear hk
            go_wp2_with (first
              | ((with_reducible refine at_slot (some 27) ?_); refine wpList_load_at rfl 32 (.tmp 26) rfl (p.add (j * 36)) rfl a.cells _ hcs1.out Try.underlying32 rfl (by rw [Try.sizeAct, hl.out]) ?_)
              | ((with_reducible refine at_slot (some 6) ?_); refine wpList_alloc_row rfl 32 rfl ia _ hai haz zAct rfl ?_)
              | ((with_reducible refine at_slot none ?_); refine wpList_store_row rfl 32 (.tmp 6) (.tmp 27) rfl wr.heap.size a.cells.toArray rfl rfl 32 zAct (heap_alloc_new _ _) (by rw [Try.sizeAct, List.size_toArray, hl.out]) hzs.out (all_oneCell_toArray a.one) ?_; rw [World.setRow_alloc_new, hW'.out]))
            refine (pairQ_step hQ (fun r hr => WText_any a.s hss a.size _ s r _ hr hsz s' k hk'.out)).mono ?_
            rintro e W2 ⟨rfl, hQ2, hb2⟩
            have d1 : W2.cell? ⟨wr.heap.size, 3, none⟩ = some (.string a.s) := hQ2.holds.cell 3
            have d2 : W2.cell? ⟨wr.heap.size, 2, none⟩ = some (.int .i64 a.size) := hQ2.holds.cell 2
            clear c0 c1 c2 c3
            have c16 := hid (fun W (hq : PairQ W w.heap.size w.heap.size 92 s' (w.heap.size + 1) 28 s wr.heap.size 32 a.cells.toArray.toList) => pairQ_step hq.swap (fun r hr => refText_any a.s hss a.size _ s r _ hr hsz s' k hk'.out))
            go_wp2_with fail
            go_region_held3 (fun w' => w'.cell? ⟨wr.heap.size, 3, none⟩ = some (.string a.s) ∧ w'.cell? ⟨wr.heap.size, 2, none⟩ = some (.int .i64 a.size)) (first | exact ⟨d1, d2⟩ | exact ⟨hQ3.holds.cell 3, hQ3.holds.cell 2⟩)
              (first
                | (go_at_call 15; refine (errNum_any _ _).mono ?_; rintro e w' ⟨rfl, rfl⟩)
                | (go_at_call 18; refine (c16.out _ ?_).mono ?_; exact hQ2; rintro e W3 ⟨rfl, hQ3, hb3⟩))
            have cA1 := hid (pair_all hQ3.pair.swap (fun r hr => WAll_any _ _ r _ hr))
            have cA2 := hid (pair_all hQ3.pair (fun r hr => refAll_any _ _ r _ hr))
            have hQ4 := hid hQ3
            have hB4 := hid ((hBW'.out.trans hb2).drew.trans hb3)
            clear hQ hQ2 hQ3 hb2 hb3
            go_wp2_with (first
              | (go_at_call 21; refine cA1.out.mono ?_; rintro e w' ⟨rfl, rfl⟩)
              | (go_at_call 22; refine cA2.out.mono ?_; rintro e w' ⟨rfl, rfl⟩))
            go_roundw
            case rel => exact ⟨j + 1, s', by go_num, by omega, by omega, hQ4.out.pair.swap, hs', hB4.out⟩
            case measure => simp [intOf]; omega
          · skip
            have q4 : decide (a.kind < 4) = false := by simpa using hk4
            have q7 : decide (a.kind < 7) = false := by simpa using hk7
            have hh := hid (hashOf_act hf1.out)
            have hcr := hid (act_hash hQ.holds)
            clear hk4 hk7
            obtain ⟨s', k, hk⟩ : ∃ s' k, addPiece s (some a.h) = (s', k) := ⟨_, _, rfl⟩
            have hs' := addPiece_size hk hsz
            have hk' := hid hk
            clear hk
            go_wp2_with (first
              | ((with_reducible refine at_slot (some 27) ?_); refine wpList_load_at rfl 32 (.tmp 26) rfl (p.add (j * 36)) rfl a.cells _ hcs1.out Try.underlying32 rfl (by rw [Try.sizeAct, hl.out]) ?_)
              | ((with_reducible refine at_slot (some 6) ?_); refine wpList_alloc_row rfl 32 rfl ia _ hai haz zAct rfl ?_)
              | ((with_reducible refine at_slot none ?_); refine wpList_store_row rfl 32 (.tmp 6) (.tmp 27) rfl wr.heap.size a.cells.toArray rfl rfl 32 zAct (heap_alloc_new _ _) (by rw [Try.sizeAct, List.size_toArray, hl.out]) hzs.out (all_oneCell_toArray a.one) ?_; rw [World.setRow_alloc_new, hW'.out])
              | ((with_reducible refine at_slot (some 30) ?_); refine wpList_load_at rfl 30 (.tmp 29) rfl ⟨wr.heap.size, 4, none⟩ rfl (strCells a.h) _ hcr.out Try.underlying30 rfl (by rw [Try.infoHash, strCells_length, hf1.out.1]) ?_))
            refine (pairQ_step hQ (fun r hr => WHash_any _ a.h hh.out _ s r _ hr hsz s' k hk'.out)).mono ?_
            rintro e W2 ⟨rfl, hQ2, hb2⟩
            have d1 := hid (act_range hQ2.holds)
            have hu := Try.underlying30
            have hi : (Try.prog.info? 30).map (·.size) = some (strCells a.h).length := by rw [Try.infoHash, strCells_length, hf1.out.1]
            clear c0 c1 c2 c3
            have c16 := hid (fun W (hq : PairQ W w.heap.size w.heap.size 92 s' (w.heap.size + 1) 28 s wr.heap.size 32 a.cells.toArray.toList) => pairQ_step hq.swap (fun r hr => refHash_any _ a.h hh.out _ s r _ hr hsz s' k hk'.out))
            go_wp2_with fail
            go_region_held3 (fun w' => w'.rangeAt wr.heap.size 4 (strCells a.h)) (first | exact d1.out | exact act_range hQ3.holds)
              (first
                | (go_at_call 15; refine (errNum_any _ _).mono ?_; rintro e w' ⟨rfl, rfl⟩)
                | (go_at_call 20; refine (c16.out _ ?_).mono ?_; exact hQ2; rintro e W3 ⟨rfl, hQ3, hb3⟩))
            have cA1 := hid (pair_all hQ3.pair.swap (fun r hr => WAll_any _ _ r _ hr))
            have cA2 := hid (pair_all hQ3.pair (fun r hr => refAll_any _ _ r _ hr))
            have hQ4 := hid hQ3
            have hB4 := hid ((hBW'.out.trans hb2).drew.trans hb3)
            clear hQ hQ2 hQ3 hb2 hb3
            go_wp2_with (first
              | (go_at_call 21; refine cA1.out.mono ?_; rintro e w' ⟨rfl, rfl⟩)
              | (go_at_call 22; refine cA2.out.mono ?_; rintro e w' ⟨rfl, rfl⟩))
            go_roundw
            case rel => exact ⟨j + 1, s', by go_num, by omega, by omega, hQ4.out.pair.swap, hs', hB4.out⟩
            case measure => simp [intOf]; omega
    · have hB' := hid hB
      by_cases hlt1 : j < n
      · obtain rfl : j = 60 := by omega
        go_wp2_with fail
        refine (awake3_any _).mono ?_
        rintro e W1 ⟨rfl, hb1⟩
        go_wp2
        go_ret
        exact ⟨rfl, hB'.out.trans (hb1.mono hB'.out.size)⟩
      · go_wp2_with fail
        refine (awake3_any _).mono ?_
        rintro e W1 ⟨rfl, hb1⟩
        go_wp2
        go_ret
        exact ⟨rfl, hB'.out.trans (hb1.mono hB'.out.size)⟩

end Go.Proofs.Ytlbmlnefglgonab
