/- The statement WireReads: its walk. -/
import Derived.Test.YtlbmlnefglgonabRefR3
import Derived.Test.YtlbmlnefglgonabWireWrites
namespace Go.Proofs.Ytlbmlnefglgonab
open Go.RowKit
open Go.Lib (strCells strCells_length strCells_oneCell)

theorem extract_all (s : ByteArray) : s.extract 0 s.size = s := by
  apply bytes_ext
  rw [ByteArray.data_extract, Array.toList_extract]
  simp only [List.extract, List.drop_zero, Nat.sub_zero]
  rw [← data_length, List.take_length]

theorem hash_same (h : ByteArray) (hs : h.size = 32) (w : World) : (Op.equalIn 10000 30 (.agg (strCells h).toArray) (.agg (strCells h).toArray)).run Try.prog w = .ok true w := by
  have := run_equalIn_bytes (P := Try.prog) w 9998 30 5 32 Try.underlying30 Try.underlying5 (fun _ => by kernel_rfl) h.data.toList h.data.toList (by rw [data_length, hs]) (by rw [data_length, hs])
  rw [beq_self_eq_true] at this
  exact this

set_option maxRecDepth 100000 in
set_option maxHeartbeats 4000000 in
theorem WireReads_law (s : ByteArray) (hs : s.size ≤ 140737488351232) (A : Option Addr) (n c : Nat) (xs : List ActOf) (w : World) (hA : Acts w w.heap.size A n xs) (hn : n ≤ maxLen) :
    Calls Try.prog 4 #[.string s, .slice A n c] w fun e w' => e = .returned (.bool true) ∧ Below w.heap.size w w' := by
  obtain ⟨ia, hai, haz, has⟩ := info_two Try.infoAct
  obtain ⟨ih, hhi, hhz, hhs, hhb⟩ := info_parts Try.infoHashI
  unfold maxLen at hn
  go_enter Try.func4, Try.ntmps4
  go_wp2_with fail
  refine (wireOpen_any s _).mono ?_
  rintro e W0 ⟨rfl, rfl⟩
  go_wp2_with fail
  go_loopw [7] (fun i wr => ∃ (j p : Nat) (l : ByteArray), i = .int .i64 j ∧ j ≤ n ∧ j ≤ 60 ∧ Rd wr w.heap.size l ∧ RR wr (w.heap.size + 1) s p ∧ p ≤ s.size ∧ Hid (s.extract p s.size = l) ∧ Below w.heap.size w wr) (fun i _ => 60 - (intOf i).toNat)
  case atStart =>
    refine ⟨0, 0, s, rfl, Nat.zero_le _, by omega, Holds.alloc (Rd.fresh w s) _, ?_, Nat.zero_le _, hid (extract_all s), ((Below.refl _ _).alloc (Nat.le_refl _) _).alloc (by simp) _⟩
    have := Holds.new (w.alloc (.cells #[.string s] 102)) 48 #[.string s, .int .i64 0]
    rwa [alloc_size] at this
  case round =>
    obtain ⟨j, p, l, rfl, hj1, hj2, hR1, hR2, hp, hl, hB⟩ := hrel
    by_cases hlt : j < n ∧ j < 60
    · obtain ⟨hlt1, hlt2⟩ := hlt
      obtain ⟨hlen, hfine, h0 | ⟨pp, rfl, hpB, hcs⟩⟩ := hA.below hB
      · omega
      · have hjl : j < xs.length := by omega
        have hcs1 := hid (hcs j hjl)
        have hf1 := hid (hfine _ (List.getElem_mem hjl))
        generalize xs[j] = a at *
        have hla := hid (ActOf.len hf1.out)
        have hzs : Hid (zAct.size = a.cells.toArray.size) := hid (by show 36 = a.cells.length; exact hla.out.symm)
        have hlz : l.size ≤ 140737488351232 := by rw [← hl.out, extract_size]; omega
        obtain ⟨W, hW⟩ : ∃ W, wr.alloc (.cells a.cells.toArray 32) = W := ⟨_, rfl⟩
        have hg1q := Holds.lt hR1
        have hg2q := Holds.lt hR2
        have hQ := Holds.new wr 32 a.cells.toArray
        have hP1 : Rd W w.heap.size l := by rw [← hW]; exact Holds.alloc hR1 _
        have hP2 : RR W (w.heap.size + 1) s p := by rw [← hW]; exact Holds.alloc hR2 _
        have hBW := hB.alloc hB.size (.cells a.cells.toArray 32)
        rw [hW] at hQ hBW
        have hW' := hid hW
        have hBW' := hid hBW
        have hB' := hid hB
        have hA' := hid hA
        have c0 : W.cell? ⟨wr.heap.size, 0, none⟩ = some (.int .i64 a.kind) := hQ.cell 0
        have c2 : W.cell? ⟨wr.heap.size, 2, none⟩ = some (.int .i64 a.size) := hQ.cell 2
        have hQ' := hid hQ
        have hBs : w.heap.size ≤ W.heap.size := hBW.size
        clear hcs hfine hlen hW hBW hB hA hjl hR1 hR2 hQ
        by_cases hk4 : a.kind < 4
        · skip
          have q4 : decide (a.kind < 4) = true := by simpa using hk4
          clear hk4
          obtain ⟨x, k, l', hk⟩ : ∃ x k l', readNum l a.size = (x, k, l') := ⟨_, _, _, rfl⟩
          have hk' := hid hk
          clear hk
          go_wp2_with (first
            | ((with_reducible refine at_slot (some 39) ?_); refine wpList_load_at rfl 32 (.tmp 38) rfl (pp.add (j * 36)) rfl a.cells _ hcs1.out Try.underlying32 rfl (by rw [Try.sizeAct, hla.out]) ?_)
            | ((with_reducible refine at_slot (some 8) ?_); refine wpList_alloc_row rfl 32 rfl ia _ hai haz zAct rfl ?_)
            | ((with_reducible refine at_slot none ?_); refine wpList_store_row rfl 32 (.tmp 8) (.tmp 39) rfl wr.heap.size a.cells.toArray rfl rfl 32 zAct (heap_alloc_new _ _) (by rw [Try.sizeAct, List.size_toArray, hla.out]) hzs.out (all_oneCell_toArray a.one) ?_; rw [World.setRow_alloc_new, hW'.out]))
          refine (RNum_any w.heap.size l a.size W hP1 x k l' hk'.out).mono ?_
          rintro e W1 ⟨rfl, m1, n1⟩
          have d2 : W1.cell? ⟨wr.heap.size, 2, none⟩ = some (.int .i64 a.size) := (Holds.grown hQ'.out n1 (by simp; omega)).cell 2
          have m2 : RR W1 (w.heap.size + 1) s p := Holds.grown hP2 n1 (by simp)
          clear c0 c2
          go_wp2_with fail
          refine (refRNum_any (w.heap.size + 1) s p hp hs a.size W1 m2 l hl.out x k l' hk'.out).mono ?_
          rintro e W2 ⟨rfl, p2, k2, hp2, he2', n2⟩
          have he2 := hid he2'
          have k1 : Rd W2 w.heap.size l' := Holds.grown m1 n2 (by simp)
          have hB4 := hid (below_of_only (below_of_only hBW'.out n1 (Nat.le_refl _) hBs) n2 (Nat.le_succ _) (Nat.le_trans hBs n1.size))
          clear he2' m1 m2 n1 n2 d2 hP1 hP2
          have hz2 : ((l'.size : Nat) : Int) = (s.size : Int) - p2 := by rw [← he2.out, extract_size]; omega
          have cL := hid (fun m => RLeft_any w.heap.size l' (W2.drewN m) (Holds.drewN k1 m))
          have cM := hid (fun m => refLeft_any (w.heap.size + 1) s p2 hp2 hs (W2.drewN m) (Holds.drewN k2 m) _ hz2)
          clear hz2
          go_wp2_with (first
            | (go_at_call 15; refine (errNum_any _ _).mono ?_; rintro e w' ⟨rfl, rfl⟩)
            | (go_at_call 31; refine (cL.out 0).mono ?_; rintro e w' ⟨rfl, rfl⟩)
            | (go_at_call 32; refine (cM.out 0).mono ?_; rintro e w' ⟨rfl, m2, rfl⟩))
          go_roundw
          case rel => exact ⟨j + 1, p2, l', by go_num, by omega, by omega, Holds.drewN k1 _, Holds.drewN k2 _, hp2, he2, below_drewN hB4.out _⟩
          case measure => simp [intOf]; omega
        · by_cases hk7 : a.kind < 7
          · skip
            have q4 : decide (a.kind < 4) = false := by simpa using hk4
            have q7 : decide (a.kind < 7) = true := by simpa using hk7
            clear hk4 hk7
            obtain ⟨x, k, l', hk⟩ : ∃ x k l', readText l a.size = (x, k, l') := ⟨_, _, _, rfl⟩
            have hk' := hid hk
            clear hk
            go_wp2_with (first
              | ((with_reducible refine at_slot (some 39) ?_); refine wpList_load_at rfl 32 (.tmp 38) rfl (pp.add (j * 36)) rfl a.cells _ hcs1.out Try.underlying32 rfl (by rw [Try.sizeAct, hla.out]) ?_)
              | ((with_reducible refine at_slot (some 8) ?_); refine wpList_alloc_row rfl 32 rfl ia _ hai haz zAct rfl ?_)
              | ((with_reducible refine at_slot none ?_); refine wpList_store_row rfl 32 (.tmp 8) (.tmp 39) rfl wr.heap.size a.cells.toArray rfl rfl 32 zAct (heap_alloc_new _ _) (by rw [Try.sizeAct, List.size_toArray, hla.out]) hzs.out (all_oneCell_toArray a.one) ?_; rw [World.setRow_alloc_new, hW'.out]))
            refine (RText_any w.heap.size l (by omega) a.size W hP1 x k l' hk'.out).mono ?_
            rintro e W1 ⟨rfl, m1, n1⟩
            have d2 : W1.cell? ⟨wr.heap.size, 2, none⟩ = some (.int .i64 a.size) := (Holds.grown hQ'.out n1 (by simp; omega)).cell 2
            have m2 : RR W1 (w.heap.size + 1) s p := Holds.grown hP2 n1 (by simp)
            clear c0 c2
            go_wp2_with fail
            refine (refRText_any (w.heap.size + 1) s p hp hs a.size W1 m2 l hl.out x k l' hk'.out).mono ?_
            rintro e W2 ⟨rfl, p2, k2, hp2, he2', n2⟩
            have he2 := hid he2'
            have k1 : Rd W2 w.heap.size l' := Holds.grown m1 n2 (by simp)
            have hB4 := hid (below_of_only (below_of_only hBW'.out n1 (Nat.le_refl _) hBs) n2 (Nat.le_succ _) (Nat.le_trans hBs n1.size))
            clear he2' m1 m2 n1 n2 d2 hP1 hP2
            have hz2 : ((l'.size : Nat) : Int) = (s.size : Int) - p2 := by rw [← he2.out, extract_size]; omega
            have cL := hid (fun m => RLeft_any w.heap.size l' (W2.drewN m) (Holds.drewN k1 m))
            have cM := hid (fun m => refLeft_any (w.heap.size + 1) s p2 hp2 hs (W2.drewN m) (Holds.drewN k2 m) _ hz2)
            clear hz2
            go_wp2_with (first
              | (go_at_call 15; refine (errNum_any _ _).mono ?_; rintro e w' ⟨rfl, rfl⟩)
              | (go_at_call 31; refine (cL.out 0).mono ?_; rintro e w' ⟨rfl, rfl⟩)
              | (go_at_call 32; refine (cM.out 0).mono ?_; rintro e w' ⟨rfl, m2, rfl⟩))
            go_roundw
            case rel => exact ⟨j + 1, p2, l', by go_num, by omega, by omega, Holds.drewN k1 _, Holds.drewN k2 _, hp2, he2, below_drewN hB4.out _⟩
            case measure => simp [intOf]; omega
          · skip
            have q4 : decide (a.kind < 4) = false := by simpa using hk4
            have q7 : decide (a.kind < 7) = false := by simpa using hk7
            clear hk4 hk7
            obtain ⟨x, k, l', hk⟩ : ∃ x k l', readHash l = (x, k, l') := ⟨_, _, _, rfl⟩
            have hx32 := readHash_size hk
            have hH := hid (show HashOf (strCells x).toArray x from ⟨rfl, hx32⟩)
            have hsame := hash_same x hx32
            have hk' := hid hk
            clear hk hx32
            have hl32 := hid hH.out.len
            go_wp2_with (first
              | ((with_reducible refine at_slot (some 39) ?_); refine wpList_load_at rfl 32 (.tmp 38) rfl (pp.add (j * 36)) rfl a.cells _ hcs1.out Try.underlying32 rfl (by rw [Try.sizeAct, hla.out]) ?_)
              | ((with_reducible refine at_slot (some 8) ?_); refine wpList_alloc_row rfl 32 rfl ia _ hai haz zAct rfl ?_)
              | ((with_reducible refine at_slot none ?_); refine wpList_store_row rfl 32 (.tmp 8) (.tmp 39) rfl wr.heap.size a.cells.toArray rfl rfl 32 zAct (heap_alloc_new _ _) (by rw [Try.sizeAct, List.size_toArray, hla.out]) hzs.out (all_oneCell_toArray a.one) ?_; rw [World.setRow_alloc_new, hW'.out]))
            refine (RHash_any w.heap.size l W hP1 x k l' hk'.out).mono ?_
            rintro e W1 ⟨rfl, m1, n1⟩
            have m2 : RR W1 (w.heap.size + 1) s p := Holds.grown hP2 n1 (by simp)
            obtain ⟨V, hV⟩ : ∃ V, W1.alloc (.cells (strCells x).toArray 30) = V := ⟨_, rfl⟩
            have hV' := hid hV
            have m1v : Rd V w.heap.size l' := by rw [← hV]; exact Holds.alloc m1 _
            have m2v : RR V (w.heap.size + 1) s p := by rw [← hV]; exact Holds.alloc m2 _
            have hVb : V.heap[W1.heap.size]? = some (.cells (strCells x).toArray 30 (0, 0)) := by rw [← hV]; exact heap_at _ _ _ rfl
            have hVB := (below_of_only hBW'.out n1 (Nat.le_refl _) hBs).alloc (Nat.le_trans hBs n1.size) (.cells (strCells x).toArray 30)
            have hVs : W1.heap.size < V.heap.size ∧ w.heap.size + 1 < W1.heap.size := ⟨by rw [← hV]; simp, Holds.lt m2⟩
            rw [hV] at hVB
            have hVB' := hid hVB
            clear c0 c2 hV hVB
            go_wp2_with (first
              | ((with_reducible refine at_slot (some 17) ?_); refine wpList_alloc_row rfl 30 rfl ih _ hhi hhz z32 rfl ?_)
              | ((with_reducible refine at_slot none ?_); refine wpList_store_row rfl 30 (.tmp 17) (.tmp 43) rfl W1.heap.size (strCells x).toArray rfl rfl 30 z32 (heap_alloc_new _ _) (by rw [Try.infoHash, hl32.out]) (by rw [hl32.out]; rfl) hH.out.one ?_; rw [World.setRow_alloc_new, hV'.out]))
            refine (refRHash_any (w.heap.size + 1) s p hp hs V m2v l hl.out x k l' hk'.out).mono ?_
            rintro e W2 ⟨rfl, p2, k2', hp2, he2', n2⟩
            have he2 := hid he2'
            obtain ⟨U, hU⟩ : ∃ U, W2.alloc (.cells (strCells x).toArray 30) = U := ⟨_, rfl⟩
            have hU' := hid hU
            have k1 : Rd U w.heap.size l' := by rw [← hU]; exact Holds.alloc (Holds.grown m1v n2 (by simp)) _
            have k2 : RR U (w.heap.size + 1) s p2 := by rw [← hU]; exact Holds.alloc k2' _
            have u1 := hid (by rw [← hU]; exact heap_up _ _ _ _ ((n2.block _ hVs.1 (by simp; omega)).trans hVb) : U.heap[W1.heap.size]? = some (.cells (strCells x).toArray 30 (0, 0)))
            have u2 := hid (by rw [← hU]; exact heap_at _ _ _ rfl : U.heap[W2.heap.size]? = some (.cells (strCells x).toArray 30 (0, 0)))
            have hB4 := hid (by rw [← hU]; exact (below_of_only hVB'.out n2 (Nat.le_succ _) hVB'.out.size).alloc (Nat.le_trans hVB'.out.size n2.size) _ : Below w.heap.size w U)
            clear he2' m1 m2 m1v m2v k2' n1 n2 hP1 hP2 hVb hVs hU
            have hz2 : ((l'.size : Nat) : Int) = (s.size : Int) - p2 := by rw [← he2.out, extract_size]; omega
            have cL := hid (fun m => RLeft_any w.heap.size l' (U.drewN m) (Holds.drewN k1 m))
            have cM := hid (fun m => refLeft_any (w.heap.size + 1) s p2 hp2 hs (U.drewN m) (Holds.drewN k2 m) _ hz2)
            clear hz2
            go_wp2_with (first
              | ((with_reducible refine at_slot (some 19) ?_); refine wpList_alloc_row rfl 30 rfl ih _ hhi hhz z32 rfl ?_)
              | ((with_reducible refine at_slot none ?_); refine wpList_store_row rfl 30 (.tmp 19) (.tmp 48) rfl W2.heap.size (strCells x).toArray rfl rfl 30 z32 (heap_alloc_new _ _) (by rw [Try.infoHash, hl32.out]) (by rw [hl32.out]; rfl) hH.out.one ?_; rw [World.setRow_alloc_new, hU'.out])
              | ((with_reducible refine at_slot (some 50) ?_); refine wpList_load_row rfl 30 (.tmp 17) rfl W1.heap.size rfl 30 (strCells x).toArray (0, 0) _ u1.out Try.underlying30 rfl (by rw [Try.infoHash, hl32.out]) ?_)
              | ((with_reducible refine at_slot (some 51) ?_); refine wpList_load_row rfl 30 (.tmp 19) rfl W2.heap.size rfl 30 (strCells x).toArray (0, 0) _ u2.out Try.underlying30 rfl (by rw [Try.infoHash, hl32.out]) ?_)
              | (go_at_call 15; refine (errNum_any _ _).mono ?_; rintro e w' ⟨rfl, rfl⟩)
              | (go_at_call 31; refine (cL.out 0).mono ?_; rintro e w' ⟨rfl, rfl⟩)
              | (go_at_call 32; refine (cM.out 0).mono ?_; rintro e w' ⟨rfl, m2, rfl⟩))
            go_roundw
            case rel => exact ⟨j + 1, p2, l', by go_num, by omega, by omega, Holds.drewN k1 _, Holds.drewN k2 _, hp2, he2, below_drewN hB4.out _⟩
            case measure => simp [intOf]; omega
    · have hB' := hid hB
      by_cases hlt1 : j < n
      · obtain rfl : j = 60 := by omega
        go_wp2_with fail
        refine (awake3_any _).mono ?_
        rintro e W1 ⟨rfl, hb1⟩
        go_wp2
        go_ret
        exact ⟨rfl, hB'.out.trans (hb1.mono hB'.out.size)⟩
      · go_wp2_with fail
        refine (awake3_any _).mono ?_
        rintro e W1 ⟨rfl, hb1⟩
        go_wp2
        go_ret
        exact ⟨rfl, hB'.out.trans (hb1.mono hB'.out.size)⟩

end Go.Proofs.Ytlbmlnefglgonab
