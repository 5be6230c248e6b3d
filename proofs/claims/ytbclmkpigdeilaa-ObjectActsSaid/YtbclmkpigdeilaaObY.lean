/- Layer 11: ObjectActs. -/
import Derived.Test.YtbclmkpigdeilaaObTX
import Derived.Test.YtbclmkpigdeilaaHashE
namespace Go.Proofs.Ytbclmkpigdeilaa
open Go.RowKit
open Go.Lib (strCells strCells_length strCells_oneCell)
attribute [local irreducible] Sha.compress Sha.blocks Sha.sha Sha.pad

set_option maxRecDepth 100000 in
set_option maxHeartbeats 8000000 in
theorem ObjectActs_law {w : World} (most : Int) (A : Option Addr) (len cap : Nat) (xs : List ObAct) (hX : ObActs w w.heap.size A len xs) (_ : len ≤ maxLen) :
    Calls Try.prog 3 #[.int .i64 most, .slice A len cap] w fun e w' => e = .returned (.bool true) ∧ Below w.heap.size w w' := by
  by_cases hm : 1 ≤ most ∧ most ≤ 1024
  · obtain ⟨n, rfl⟩ : ∃ n : Nat, most = (n : Int) := ⟨most.toNat, by omega⟩
    have n1 : 1 ≤ n := by omega
    have n2 : n ≤ 1024 := by omega
    have hN := hid (fun V => obNew_yes n n1 n2 V)
    have hM := hid (fun V => rNew_yes n n1 n2 w.heap.size V)
    have hX' := hid hX
    clear hX hm n1 n2
    go_enter Try.func3, Try.ntmps3
    go_wp2_with fail
    refine (hN.out _).mono ?_
    rintro e W1 ⟨rfl, hS, hb⟩
    have hS1 := hid hS
    have hb1 := hid hb
    clear hS hb
    try (rename_i hKK; refine hKK _ _ ?_; clear hKK)
    go_wp2_with fail
    refine (hM.out _).mono ?_
    rintro e W2 ⟨rfl, hR, hb⟩
    have hT2 := hid (TwoAt.new hS1.out hb1.out hR hb)
    have hB2 := hid (hb1.out.trans (hb.mono hb1.out.size))
    clear hR hb hS1 hb1 hN hM
    try (rename_i hKK; refine hKK _ _ ?_; clear hKK)
    go_wp2_with (go_at_call 17; refine (errNum_any _ _).mono ?_; rintro e w' ⟨rfl, rfl⟩)
    obtain ⟨r, hr⟩ : ∃ r, W1.heap.size = r := ⟨_, rfl⟩
    rw [hr] at hT2 ⊢
    clear hr
    go_loopw [9] (fun ix wr => ∃ (i : Nat) (m : Obs), i ≤ 60 ∧ ix = .int .i64 (i : Int) ∧ TwoAt wr w.heap.size (w.heap.size + 1) w.heap.size r n m m ∧ Below w.heap.size w wr) (fun ix _ => 60 - (intOf ix).toNat)
    case atStart => exact ⟨0, [], by omega, rfl, hT2.out, hB2.out⟩
    case round =>
      obtain ⟨i, m, hi, rfl, hTr, hBr⟩ := hrel
      obtain ⟨W10, rfl⟩ : ∃ V, V = wr := ⟨_, rfl⟩
      have hT10 := hid hTr
      have hB10 := hid hBr
      clear hTr hBr
      by_cases hlt : i < len ∧ i < 60
      · obtain ⟨hl1, hl2⟩ := hlt
        have hl1' : (i : Int) < (len : Int) := by omega
        have hl2' : (i : Int) < 60 := by omega
        have s3 : (0 : Int) ≤ (i : Int) := by omega
        have hiw := IntWalk.i64_in ((i : Int) + 1) (by omega)
        obtain ⟨p, x, rfl, hxf, hpB, hc⟩ := (hX'.out.below hB10.out).get hl1
        have hc' := hid hc
        have hAC := hid (ac_cells hxf)
        have hAC2 := hid hAC.out.size'
        obtain ⟨kd, sx, hh⟩ := x
        have h32 := hid hxf.1
        have hsx := hid hxf.2
        have hHC := hid (hash_cells hh h32.out)
        have hHC2 := hid (show (Try.prog.info? 33).map (·.size) = some (byteCells hh).length from by have := hHC.out.size; rwa [List.size_toArray] at this)
        clear hc hxf hpB
        have hneX := hid hT10.out.ne
        have hloX := hid hB10.out.size
        by_cases hk4 : kd < 4
        · as_aux_lemma =>
            obtain ⟨⟨pa, pc, pm⟩, hpa⟩ : ∃ z, putAns n m sx = z := ⟨_, rfl⟩
            have l32 : pa.length = 32 := by have := putAns_len n m sx; rw [hpa] at this; exact this
            have hP := hid (fun V (h : TwoAt V w.heap.size (w.heap.size + 1) w.heap.size r n m m) => tPutE hpa h)
            have hQ := hid (fun V (h : TwoAt V w.heap.size (w.heap.size + 1) w.heap.size r n pm m) => tPutRE hpa h)
            have hC := hid (hash_cells pa l32)
            have hC2 := hid (show (Try.prog.info? 33).map (·.size) = some (byteCells pa).length from by have := hC.out.size; rwa [List.size_toArray] at this)
            have hpl := hid l32
            clear hpa l32
            go_wp2_with (first
              | ((with_reducible refine at_slot (some 69) ?_); refine wpList_load_any rfl 35 (.tmp 68) rfl (p.add (i * 34)) rfl (ObAct.cells ⟨kd, sx, hh⟩) _ (by exact hc'.out) Try.underlying35 rfl (by exact hAC2.out) ?_)
              | ((with_reducible refine at_slot (some 10) ?_); refine wpList_run rfl (.pointer (some ⟨W10.heap.size, 0, none⟩)) (W10.alloc (.cells zAc.toArray 35)) (by kernel_rfl) ?_)
              | ((with_reducible refine at_slot none ?_); refine wpList_store_mid rfl 35 (.tmp 10) (.tmp 69) rfl W10.heap.size 0 (ObAct.cells ⟨kd, sx, hh⟩).toArray rfl rfl (by exact hAC.out.there W10) (by exact hAC.out.size) (by exact hAC.out.one) ?_; generalize hW : World.setCells _ _ _ _ = W11; obtain ⟨hN, hb⟩ := hAC.out.new hW; have hT11 := hid (hT10.out.on hb); have hB11 := hid (below_up hb hB10.out); have hX11 := hid hN; clear hb hT10 hB10 hN; clear hW; have c0 := hX11.out.cO 0 (.int .i64 kd) rfl; have c1 := hX11.out.cO 1 (.string sx) rfl)
              | fail)
            obtain ⟨gx, hg⟩ : ∃ g, W10.heap.size = g := ⟨_, rfl⟩
            rw [hg] at hX11 hneX hloX c0 c1 ⊢
            clear hg
            skip
            clear c0 c1
            refine (hP.out _ hT11.out).mono ?_
            rintro e W12 ⟨rfl, hT, hb, hkk⟩
            have hT12 := hid hT
            have hB12 := hid (hB11.out.trans hb)
            have hX12 := hid (hkk.holds hX11.out hneX.out (by decide))
            clear hT hb hkk hT11 hB11 hX11
            try (rename_i hKK; refine hKK _ _ ?_; clear hKK)
            have hneY := hid hT12.out.ne
            have hloY := hid hB12.out.size
            have c0 := hX12.out.cO 0 (.int .i64 kd) rfl
            have c1 := hX12.out.cO 1 (.string sx) rfl
            go_wp2_with (first
              | ((with_reducible refine at_slot (some 11) ?_); refine wpList_run rfl (.pointer (some ⟨W12.heap.size, 0, none⟩)) (W12.alloc (.cells z32 33)) (by kernel_rfl) ?_)
              | ((with_reducible refine at_slot none ?_); refine wpList_store_mid rfl 33 (.tmp 11) (.tmp 128) rfl W12.heap.size 0 (byteCells pa).toArray rfl rfl (by exact hC.out.there W12) (by exact hC.out.size) (by exact hC.out.one) ?_; generalize hW : World.setCells _ _ _ _ = W13; obtain ⟨hN, hb⟩ := hC.out.new hW; have hT13 := hid (hT12.out.on hb); have hB13 := hid (below_up hb hB12.out); have hX13 := hid (hX12.out.below hb hX12.out.lt); have hY13 := hid hN; clear hb hT12 hB12 hX12 hN; clear hW; clear c0 c1; have c0 := hX13.out.cO 0 (.int .i64 kd) rfl; have c1 := hX13.out.cO 1 (.string sx) rfl)
              | fail)
            obtain ⟨gy, hg⟩ : ∃ g, W12.heap.size = g := ⟨_, rfl⟩
            rw [hg] at hY13 hneY hloY ⊢
            clear hg
            clear c0 c1
            refine (hQ.out _ hT13.out).mono ?_
            rintro e W14 ⟨rfl, hT, hb, hkk⟩
            have hT14 := hid hT
            have hB14 := hid (hB13.out.trans hb)
            have hX14 := hid (hkk.holds hX13.out hneX.out (by decide))
            have hY14 := hid (hkk.holds hY13.out hneY.out (by decide))
            clear hT hb hkk hT13 hB13 hX13 hY13
            try (rename_i hKK; refine hKK _ _ ?_; clear hKK)
            have hneZ := hid hT14.out.ne
            have hloZ := hid hB14.out.size
            have c0 := hX14.out.cO 0 (.int .i64 kd) rfl
            have c1 := hX14.out.cO 1 (.string sx) rfl
            go_wp2_with (first
              | ((with_reducible refine at_slot (some 13) ?_); refine wpList_run rfl (.pointer (some ⟨W14.heap.size, 0, none⟩)) (W14.alloc (.cells z32 33)) (by kernel_rfl) ?_)
              | ((with_reducible refine at_slot none ?_); refine wpList_store_mid rfl 33 (.tmp 13) (.tmp 135) rfl W14.heap.size 0 (byteCells pa).toArray rfl rfl (by exact hC.out.there W14) (by exact hC.out.size) (by exact hC.out.one) ?_; generalize hW : World.setCells _ _ _ _ = W15; obtain ⟨hN, hb⟩ := hC.out.new hW; have hT15 := hid (hT14.out.on hb); have hB15 := hid (below_up hb hB14.out); have hX15 := hid (hX14.out.below hb hX14.out.lt); have hY15 := hid (hY14.out.below hb hY14.out.lt); have hZ15 := hid hN; clear hb hT14 hB14 hX14 hY14 hN; clear hW; clear c0 c1; have c0 := hX15.out.cO 0 (.int .i64 kd) rfl; have c1 := hX15.out.cO 1 (.string sx) rfl)
              | ((with_reducible refine at_slot (some 137) ?_); refine wpList_load_mid rfl 33 (.tmp 11) rfl gy 0 rfl (byteCells pa) _ (by exact h_all hY15.out) Try.underlying33 rfl (by exact hC2.out) ?_)
              | ((with_reducible refine at_slot (some 138) ?_); refine wpList_load_mid rfl 33 (.tmp 13) rfl W14.heap.size 0 rfl (byteCells pa) _ (by exact h_all hZ15.out) Try.underlying33 rfl (by exact hC2.out) ?_)
              | ((with_reducible refine at_slot (some 139) ?_); refine wpList_zneq (by kernel_rfl) (.tmp 137) (.tmp 138) _ rfl pa pa (by exact hpl.out) (by exact hpl.out) true (beq_self_eq_true _) rfl rfl ?_)
              | (go_at_call 17; refine (errNum_any _ _).mono ?_; rintro e w' ⟨rfl, rfl⟩)
              | fail)
            try clear c0 c1
            go_wp2_with fail
            refine (obLen_any _ _ _ _ _ hT15.out.own).mono ?_
            rintro e w' ⟨rfl, hw⟩
            obtain rfl := hw.symm
            clear hw
            try (rename_i hKK; refine hKK _ _ ?_; clear hKK)
            go_wp2_with fail
            refine (rLen_any _ _ _ _ _ hT15.out.doc).mono ?_
            rintro e w' ⟨rfl, hw⟩
            obtain rfl := hw.symm
            clear hw
            try (rename_i hKK; refine hKK _ _ ?_; clear hKK)
            go_wp2_with fail
            go_roundw
            case rel => exact ⟨i + 1, pm, by omega, by go_num, hT15.out, hB15.out⟩
            case measure => simp [intOf]; omega
        · by_cases hk6 : kd < 6
          · as_aux_lemma =>
              have hneY := hid hT10.out.ne
              clear hneY
              by_cases he : kd = 4
              · as_aux_lemma =>
                  obtain ⟨l, hl⟩ : ∃ l, objAns sx = l := ⟨_, rfl⟩
                  have l32 : l.length = 32 := by rw [← hl]; exact objAns_len sx
                  have hOb := hid (fun V => rObjE hl hsx.out V)
                  clear hl
                  obtain ⟨⟨ac, am⟩, ham⟩ : ∃ z, addAns n m l sx = z := ⟨_, rfl⟩
                  have hAd := hid (fun V (h : TwoAt V w.heap.size (w.heap.size + 1) w.heap.size r n m m) => tAddE l32 ham h)
                  have hAr := hid (fun V (h : TwoAt V w.heap.size (w.heap.size + 1) w.heap.size r n am m) => tAddRE l32 ham h)
                  clear ham
                  have hLC := hid (hash_cells l l32)
                  have hLC2 := hid (show (Try.prog.info? 33).map (·.size) = some (byteCells l).length from by have := hLC.out.size; rwa [List.size_toArray] at this)
                  have hl32 := hid l32
                  clear l32
                  go_wp2_with (first
                    | ((with_reducible refine at_slot (some 69) ?_); refine wpList_load_any rfl 35 (.tmp 68) rfl (p.add (i * 34)) rfl (ObAct.cells ⟨kd, sx, hh⟩) _ (by exact hc'.out) Try.underlying35 rfl (by exact hAC2.out) ?_)
                    | ((with_reducible refine at_slot (some 10) ?_); refine wpList_run rfl (.pointer (some ⟨W10.heap.size, 0, none⟩)) (W10.alloc (.cells zAc.toArray 35)) (by kernel_rfl) ?_)
                    | ((with_reducible refine at_slot none ?_); refine wpList_store_mid rfl 35 (.tmp 10) (.tmp 69) rfl W10.heap.size 0 (ObAct.cells ⟨kd, sx, hh⟩).toArray rfl rfl (by exact hAC.out.there W10) (by exact hAC.out.size) (by exact hAC.out.one) ?_; generalize hW : World.setCells _ _ _ _ = W11; obtain ⟨hN, hb⟩ := hAC.out.new hW; have hT11 := hid (hT10.out.on hb); have hB11 := hid (below_up hb hB10.out); have hX11 := hid hN; clear hb hT10 hB10 hN; clear hW; have c0 := hX11.out.cO 0 (.int .i64 kd) rfl; have c1 := hX11.out.cO 1 (.string sx) rfl)
                    | ((with_reducible refine at_slot (some 151) ?_); refine wpList_load_any rfl 33 (.tmp 150) rfl (⟨W10.heap.size, 2, none⟩) rfl (byteCells hh) _ (by exact hX11.out.ach) Try.underlying33 rfl (by exact hHC2.out) ?_)
                    | ((with_reducible refine at_slot (some 15) ?_); refine wpList_run rfl (.pointer (some ⟨W11.heap.size, 0, none⟩)) (W11.alloc (.cells z32 33)) (by kernel_rfl) ?_)
                    | ((with_reducible refine at_slot none ?_); refine wpList_store_mid rfl 33 (.tmp 15) (.tmp 151) rfl W11.heap.size 0 (byteCells hh).toArray rfl rfl (by exact hHC.out.there W11) (by exact hHC.out.size) (by exact hHC.out.one) ?_; generalize hW : World.setCells _ _ _ _ = W12; obtain ⟨hN, hb⟩ := hHC.out.new hW; have hT12 := hid (hT11.out.on hb); have hB12 := hid (below_up hb hB11.out); have hX12 := hid (hX11.out.below hb hX11.out.lt); have hY12 := hid hN; have hneY := hid hT11.out.ne; have hloY := hid hB11.out.size; have hneq := hid (show W10.heap.size ≠ W11.heap.size from by have := hX11.out.lt; omega); clear hb hT11 hB11 hX11 hN; clear hW; clear c0 c1; have c0 := hX12.out.cO 0 (.int .i64 kd) rfl; have c1 := hX12.out.cO 1 (.string sx) rfl)
                    | fail)
                  obtain ⟨gx, hg⟩ : ∃ g, W10.heap.size = g := ⟨_, rfl⟩
                  rw [hg] at hX12 hneX hloX hneq c0 c1 ⊢
                  clear hg
                  obtain ⟨gy, hg⟩ : ∃ g, W11.heap.size = g := ⟨_, rfl⟩
                  rw [hg] at hY12 hneY hloY hneq ⊢
                  clear hg c0 c1
                  refine (hOb.out _).mono ?_
                  rintro e W13 ⟨rfl, hb⟩
                  have hT13 := hid (hT12.out.on hb)
                  have hB13 := hid (below_up hb hB12.out)
                  have hX13 := hid (hX12.out.below hb hX12.out.lt)
                  have hY13 := hid (hY12.out.below hb hY12.out.lt)
                  clear hb hT12 hB12 hX12 hY12
                  try (rename_i hKK; refine hKK _ _ ?_; clear hKK)
                  have c0 := hX13.out.cO 0 (.int .i64 kd) rfl
                  have c1 := hX13.out.cO 1 (.string sx) rfl
                  go_wp2_with (first
                    | ((with_reducible refine at_slot none ?_); refine wpList_store_mid rfl 33 (.tmp 15) (.tmp 157) rfl gy 0 (byteCells l).toArray rfl rfl (by exact hY13.out.there 0 _ (by rw [List.size_toArray, hLC.out.len, hHC.out.len]; exact Nat.le_refl 32)) (by exact hLC.out.size) (by exact hLC.out.one) ?_; generalize hW : World.setCells _ _ _ _ = W14; have hY14 := hid (Holds.over hY13.out (by rw [hLC.out.len, hHC.out.len]) hW); have hX14 := hid (holds_far hX13.out hneq.out hW); have hT14 := hid (TwoAt.far hT13.out hY13.out (by decide) hneY.out hW); have hB14 := hid (below_put hB13.out hloY.out hW); clear hW hY13 hX13 hT13 hB13; clear c0 c1; have c0 := hX14.out.cO 0 (.int .i64 kd) rfl; have c1 := hX14.out.cO 1 (.string sx) rfl)
                    | ((with_reducible refine at_slot (some 159) ?_); refine wpList_load_mid rfl 33 (.tmp 15) rfl gy 0 rfl (byteCells l) _ (by exact h_all hY14.out) Try.underlying33 rfl (by exact hLC2.out) ?_)
                    | fail)
                  clear c0 c1
                  refine (hAd.out _ hT14.out).mono ?_
                  rintro e W15 ⟨rfl, hT, hb, hkk⟩
                  have hT15 := hid hT
                  have hB15 := hid (hB14.out.trans hb)
                  have hX15 := hid (hkk.holds hX14.out hneX.out (by decide))
                  have hY15 := hid (hkk.holds hY14.out hneY.out (by decide))
                  clear hT hb hkk hT14 hB14 hX14 hY14
                  try (rename_i hKK; refine hKK _ _ ?_; clear hKK)
                  go_wp2_with fail
                  have hb : Below W15.heap.size W15 W15.drew := (Below.refl _ _).drew
                  have hT16 := hid (hT15.out.on hb)
                  have hB16 := hid (below_up hb hB15.out)
                  have hX16 := hid (hX15.out.below hb hX15.out.lt)
                  have hY16 := hid (hY15.out.below hb hY15.out.lt)
                  clear hb hT15 hB15 hX15 hY15
                  refine wp_region_held_drew (S := fun V => Holds V gy 33 (byteCells l) ∧ Holds V gx 35 (ObAct.cells ⟨kd, sx, hh⟩)) (by kernel_rfl) (by exact ⟨hY16.out, hX16.out⟩) (fun hHeld => ?_)
                  generalize W15.drew = W16 at *
                  refine tkn 0 (.int .i64 ac) rfl (by kernel_rfl) (fun _ _ _ h => h) (yieldsIf_move _ rfl rfl rfl) hHeld ?_
                  simp only [ly, Act.put]
                  refine tkn 2 (.pointer (some ⟨r, 0, none⟩)) rfl (by kernel_rfl) (fun _ _ _ h => h) (yieldsIf_move _ rfl rfl rfl) hHeld ?_
                  simp only [ly, Act.put]
                  refine tkn 3 (.agg (byteCells l).toArray) rfl (by kernel_rfl) (fun _ _ _ h => h) (yieldsIf_load_any (by kernel_rfl) _ _ rfl ⟨gy, 0, none⟩ rfl (byteCells l) _ (fun V hS => hS.1.anyO) Try.underlying33 rfl (by exact hLC2.out)) hHeld ?_
                  simp only [ly, Act.put]
                  refine tkn 4 (.pointer (some ⟨gx, 1, none⟩)) rfl (by kernel_rfl) (fun _ _ _ h => h) (.inl ⟨by kernel_rfl, fun w _ => by go_simp⟩) hHeld ?_
                  simp only [ly, Act.put]
                  refine tkn 5 (.string sx) rfl (by kernel_rfl) (fun _ _ _ h => h) (.inl ⟨by kernel_rfl, fun V hS => by have c1 := hS.2.cO 1 (.string sx) rfl; go_simp⟩) hHeld ?_
                  simp only [ly, Act.put]
                  refine wpAnyH_ready (rs := [1]) (by kernel_rfl) (by simp) (AllReadyH.cons rfl (fun K hK => ?_) AllReadyH.nil)
                  have hK' := hid hK
                  clear hK
                  rw [if_pos (by kernel_rfl)]
                  simp only [ly1, ly2, ly3]
                  go_simp
                  refine (errNum_any _ _).mono ?_
                  rintro e w' ⟨rfl, rfl⟩
                  refine hK'.out _ _ (by exact ⟨hY16.out, hX16.out⟩) (fun hHeld => ?_)
                  clear hK' K
                  refine wpAnyH_ready (rs := [6]) (by kernel_rfl) (by simp) (AllReadyH.cons rfl (fun K hK => ?_) AllReadyH.nil)
                  have hK' := hid hK
                  clear hK
                  rw [if_pos (by kernel_rfl)]
                  simp only [ly1, ly2, ly3]
                  go_simp
                  refine (hAr.out _ hT16.out).mono ?_
                  rintro e W17 ⟨rfl, hT, hb, hkk⟩
                  have hT17 := hid hT
                  have hB17 := hid (hB16.out.trans hb)
                  have hX17 := hid (hkk.holds hX16.out hneX.out (by decide))
                  have hY17 := hid (hkk.holds hY16.out hneY.out (by decide))
                  clear hT hb hkk hT16 hB16 hX16 hY16
                  refine hK'.out _ _ (by exact ⟨hY17.out, hX17.out⟩) (fun hHeld => ?_)
                  clear hK' K
                  refine tkn 7 (.bool false) rfl (by kernel_rfl) (fun _ _ _ h => h) (.inl ⟨by kernel_rfl, fun w _ => by go_simp⟩) hHeld ?_
                  simp only [ly, Act.put]
                  refine wpAnyH_done (by kernel_rfl) ?_ _
                  try clear c0 c1
                  go_wp2_with fail
                  refine (obLen_any _ _ _ _ _ hT17.out.own).mono ?_
                  rintro e w' ⟨rfl, hw⟩
                  obtain rfl := hw.symm
                  clear hw
                  try (rename_i hKK; refine hKK _ _ ?_; clear hKK)
                  go_wp2_with fail
                  refine (rLen_any _ _ _ _ _ hT17.out.doc).mono ?_
                  rintro e w' ⟨rfl, hw⟩
                  obtain rfl := hw.symm
                  clear hw
                  try (rename_i hKK; refine hKK _ _ ?_; clear hKK)
                  go_wp2_with fail
                  go_roundw
                  case rel => exact ⟨i + 1, am, by omega, by go_num, hT17.out, hB17.out⟩
                  case measure => simp [intOf]; omega
              · as_aux_lemma =>
                  obtain ⟨l, hl⟩ : ∃ l, hh = l := ⟨_, rfl⟩
                  have l32 : l.length = 32 := by rw [← hl]; exact h32.out
                  obtain ⟨⟨ac, am⟩, ham⟩ : ∃ z, addAns n m l sx = z := ⟨_, rfl⟩
                  have hAd := hid (fun V (h : TwoAt V w.heap.size (w.heap.size + 1) w.heap.size r n m m) => tAddE l32 ham h)
                  have hAr := hid (fun V (h : TwoAt V w.heap.size (w.heap.size + 1) w.heap.size r n am m) => tAddRE l32 ham h)
                  clear ham
                  have hLC := hid (hash_cells l l32)
                  have hLC2 := hid (show (Try.prog.info? 33).map (·.size) = some (byteCells l).length from by have := hLC.out.size; rwa [List.size_toArray] at this)
                  have hl32 := hid l32
                  clear l32
                  cases hl
                  go_wp2_with (first
                    | ((with_reducible refine at_slot (some 69) ?_); refine wpList_load_any rfl 35 (.tmp 68) rfl (p.add (i * 34)) rfl (ObAct.cells ⟨kd, sx, hh⟩) _ (by exact hc'.out) Try.underlying35 rfl (by exact hAC2.out) ?_)
                    | ((with_reducible refine at_slot (some 10) ?_); refine wpList_run rfl (.pointer (some ⟨W10.heap.size, 0, none⟩)) (W10.alloc (.cells zAc.toArray 35)) (by kernel_rfl) ?_)
                    | ((with_reducible refine at_slot none ?_); refine wpList_store_mid rfl 35 (.tmp 10) (.tmp 69) rfl W10.heap.size 0 (ObAct.cells ⟨kd, sx, hh⟩).toArray rfl rfl (by exact hAC.out.there W10) (by exact hAC.out.size) (by exact hAC.out.one) ?_; generalize hW : World.setCells _ _ _ _ = W11; obtain ⟨hN, hb⟩ := hAC.out.new hW; have hT11 := hid (hT10.out.on hb); have hB11 := hid (below_up hb hB10.out); have hX11 := hid hN; clear hb hT10 hB10 hN; clear hW; have c0 := hX11.out.cO 0 (.int .i64 kd) rfl; have c1 := hX11.out.cO 1 (.string sx) rfl)
                    | ((with_reducible refine at_slot (some 151) ?_); refine wpList_load_any rfl 33 (.tmp 150) rfl (⟨W10.heap.size, 2, none⟩) rfl (byteCells hh) _ (by exact hX11.out.ach) Try.underlying33 rfl (by exact hHC2.out) ?_)
                    | ((with_reducible refine at_slot (some 15) ?_); refine wpList_run rfl (.pointer (some ⟨W11.heap.size, 0, none⟩)) (W11.alloc (.cells z32 33)) (by kernel_rfl) ?_)
                    | ((with_reducible refine at_slot none ?_); refine wpList_store_mid rfl 33 (.tmp 15) (.tmp 151) rfl W11.heap.size 0 (byteCells hh).toArray rfl rfl (by exact hHC.out.there W11) (by exact hHC.out.size) (by exact hHC.out.one) ?_; generalize hW : World.setCells _ _ _ _ = W12; obtain ⟨hN, hb⟩ := hHC.out.new hW; have hT12 := hid (hT11.out.on hb); have hB12 := hid (below_up hb hB11.out); have hX12 := hid (hX11.out.below hb hX11.out.lt); have hY12 := hid hN; have hneY := hid hT11.out.ne; have hloY := hid hB11.out.size; have hneq := hid (show W10.heap.size ≠ W11.heap.size from by have := hX11.out.lt; omega); clear hb hT11 hB11 hX11 hN; clear hW; clear c0 c1; have c0 := hX12.out.cO 0 (.int .i64 kd) rfl; have c1 := hX12.out.cO 1 (.string sx) rfl)
                    | ((with_reducible refine at_slot (some 159) ?_); refine wpList_load_mid rfl 33 (.tmp 15) rfl W11.heap.size 0 rfl (byteCells hh) _ (by exact h_all hY12.out) Try.underlying33 rfl (by exact hHC2.out) ?_)
                    | fail)
                  obtain ⟨gx, hg⟩ : ∃ g, W10.heap.size = g := ⟨_, rfl⟩
                  rw [hg] at hX12 hneX hloX hneq c0 c1 ⊢
                  clear hg
                  obtain ⟨gy, hg⟩ : ∃ g, W11.heap.size = g := ⟨_, rfl⟩
                  rw [hg] at hY12 hneY hloY hneq ⊢
                  clear hg c0 c1
                  refine (hAd.out _ hT12.out).mono ?_
                  rintro e W13 ⟨rfl, hT, hb, hkk⟩
                  have hT13 := hid hT
                  have hB13 := hid (hB12.out.trans hb)
                  have hX13 := hid (hkk.holds hX12.out hneX.out (by decide))
                  have hY13 := hid (hkk.holds hY12.out hneY.out (by decide))
                  clear hT hb hkk hT12 hB12 hX12 hY12
                  try (rename_i hKK; refine hKK _ _ ?_; clear hKK)
                  go_wp2_with fail
                  have hb : Below W13.heap.size W13 W13.drew := (Below.refl _ _).drew
                  have hT14 := hid (hT13.out.on hb)
                  have hB14 := hid (below_up hb hB13.out)
                  have hX14 := hid (hX13.out.below hb hX13.out.lt)
                  have hY14 := hid (hY13.out.below hb hY13.out.lt)
                  clear hb hT13 hB13 hX13 hY13
                  refine wp_region_held_drew (S := fun V => Holds V gy 33 (byteCells hh) ∧ Holds V gx 35 (ObAct.cells ⟨kd, sx, hh⟩)) (by kernel_rfl) (by exact ⟨hY14.out, hX14.out⟩) (fun hHeld => ?_)
                  generalize W13.drew = W14 at *
                  refine tkn 0 (.int .i64 ac) rfl (by kernel_rfl) (fun _ _ _ h => h) (yieldsIf_move _ rfl rfl rfl) hHeld ?_
                  simp only [ly, Act.put]
                  refine tkn 2 (.pointer (some ⟨r, 0, none⟩)) rfl (by kernel_rfl) (fun _ _ _ h => h) (yieldsIf_move _ rfl rfl rfl) hHeld ?_
                  simp only [ly, Act.put]
                  refine tkn 3 (.agg (byteCells hh).toArray) rfl (by kernel_rfl) (fun _ _ _ h => h) (yieldsIf_load_any (by kernel_rfl) _ _ rfl ⟨gy, 0, none⟩ rfl (byteCells hh) _ (fun V hS => hS.1.anyO) Try.underlying33 rfl (by exact hLC2.out)) hHeld ?_
                  simp only [ly, Act.put]
                  refine tkn 4 (.pointer (some ⟨gx, 1, none⟩)) rfl (by kernel_rfl) (fun _ _ _ h => h) (.inl ⟨by kernel_rfl, fun w _ => by go_simp⟩) hHeld ?_
                  simp only [ly, Act.put]
                  refine tkn 5 (.string sx) rfl (by kernel_rfl) (fun _ _ _ h => h) (.inl ⟨by kernel_rfl, fun V hS => by have c1 := hS.2.cO 1 (.string sx) rfl; go_simp⟩) hHeld ?_
                  simp only [ly, Act.put]
                  refine wpAnyH_ready (rs := [1]) (by kernel_rfl) (by simp) (AllReadyH.cons rfl (fun K hK => ?_) AllReadyH.nil)
                  have hK' := hid hK
                  clear hK
                  rw [if_pos (by kernel_rfl)]
                  simp only [ly1, ly2, ly3]
                  go_simp
                  refine (errNum_any _ _).mono ?_
                  rintro e w' ⟨rfl, rfl⟩
                  refine hK'.out _ _ (by exact ⟨hY14.out, hX14.out⟩) (fun hHeld => ?_)
                  clear hK' K
                  refine wpAnyH_ready (rs := [6]) (by kernel_rfl) (by simp) (AllReadyH.cons rfl (fun K hK => ?_) AllReadyH.nil)
                  have hK' := hid hK
                  clear hK
                  rw [if_pos (by kernel_rfl)]
                  simp only [ly1, ly2, ly3]
                  go_simp
                  refine (hAr.out _ hT14.out).mono ?_
                  rintro e W15 ⟨rfl, hT, hb, hkk⟩
                  have hT15 := hid hT
                  have hB15 := hid (hB14.out.trans hb)
                  have hX15 := hid (hkk.holds hX14.out hneX.out (by decide))
                  have hY15 := hid (hkk.holds hY14.out hneY.out (by decide))
                  clear hT hb hkk hT14 hB14 hX14 hY14
                  refine hK'.out _ _ (by exact ⟨hY15.out, hX15.out⟩) (fun hHeld => ?_)
                  clear hK' K
                  refine tkn 7 (.bool false) rfl (by kernel_rfl) (fun _ _ _ h => h) (.inl ⟨by kernel_rfl, fun w _ => by go_simp⟩) hHeld ?_
                  simp only [ly, Act.put]
                  refine wpAnyH_done (by kernel_rfl) ?_ _
                  try clear c0 c1
                  go_wp2_with fail
                  refine (obLen_any _ _ _ _ _ hT15.out.own).mono ?_
                  rintro e w' ⟨rfl, hw⟩
                  obtain rfl := hw.symm
                  clear hw
                  try (rename_i hKK; refine hKK _ _ ?_; clear hKK)
                  go_wp2_with fail
                  refine (rLen_any _ _ _ _ _ hT15.out.doc).mono ?_
                  rintro e w' ⟨rfl, hw⟩
                  obtain rfl := hw.symm
                  clear hw
                  try (rename_i hKK; refine hKK _ _ ?_; clear hKK)
                  go_wp2_with fail
                  go_roundw
                  case rel => exact ⟨i + 1, am, by omega, by go_num, hT15.out, hB15.out⟩
                  case measure => simp [intOf]; omega
          · as_aux_lemma =>
              obtain ⟨l, hl⟩ : ∃ l, objAns sx = l := ⟨_, rfl⟩
              have l32 : l.length = 32 := by rw [← hl]; exact objAns_len sx
              have hOb := hid (fun V => rObjE hl hsx.out V)
              clear hl
              obtain ⟨sa1, hsa⟩ : ∃ s, (obGet m l).getD ⟨#[]⟩ = s := ⟨_, rfl⟩
              obtain ⟨xa1, hxa⟩ : ∃ x : Int, (if (obGet m l).isSome then 0 else 1101) = x := ⟨_, rfl⟩
              have hG1 := hid (fun V (h : TwoAt V w.heap.size (w.heap.size + 1) w.heap.size r n m m) => tGetE l32 hsa hxa h)
              have hR1 := hid (fun V (h : TwoAt V w.heap.size (w.heap.size + 1) w.heap.size r n m m) => tGetRE l32 hsa hxa h)
              clear hsa hxa
              obtain ⟨sa2, hsa⟩ : ∃ s, (obGet m hh).getD ⟨#[]⟩ = s := ⟨_, rfl⟩
              obtain ⟨xa2, hxa⟩ : ∃ x : Int, (if (obGet m hh).isSome then 0 else 1101) = x := ⟨_, rfl⟩
              have hG2 := hid (fun V (h : TwoAt V w.heap.size (w.heap.size + 1) w.heap.size r n m m) => tGetE h32.out hsa hxa h)
              have hR2 := hid (fun V (h : TwoAt V w.heap.size (w.heap.size + 1) w.heap.size r n m m) => tGetRE h32.out hsa hxa h)
              clear hsa hxa
              have hLC := hid (hash_cells l l32)
              have hLC2 := hid (show (Try.prog.info? 33).map (·.size) = some (byteCells l).length from by have := hLC.out.size; rwa [List.size_toArray] at this)
              have hl32 := hid l32
              clear l32
              go_wp2_with (first
                | ((with_reducible refine at_slot (some 69) ?_); refine wpList_load_any rfl 35 (.tmp 68) rfl (p.add (i * 34)) rfl (ObAct.cells ⟨kd, sx, hh⟩) _ (by exact hc'.out) Try.underlying35 rfl (by exact hAC2.out) ?_)
                | ((with_reducible refine at_slot (some 10) ?_); refine wpList_run rfl (.pointer (some ⟨W10.heap.size, 0, none⟩)) (W10.alloc (.cells zAc.toArray 35)) (by kernel_rfl) ?_)
                | ((with_reducible refine at_slot none ?_); refine wpList_store_mid rfl 35 (.tmp 10) (.tmp 69) rfl W10.heap.size 0 (ObAct.cells ⟨kd, sx, hh⟩).toArray rfl rfl (by exact hAC.out.there W10) (by exact hAC.out.size) (by exact hAC.out.one) ?_; generalize hW : World.setCells _ _ _ _ = W11; obtain ⟨hN, hb⟩ := hAC.out.new hW; have hT11 := hid (hT10.out.on hb); have hB11 := hid (below_up hb hB10.out); have hX11 := hid hN; clear hb hT10 hB10 hN; clear hW; have c0 := hX11.out.cO 0 (.int .i64 kd) rfl; have c1 := hX11.out.cO 1 (.string sx) rfl)
                | fail)
              obtain ⟨gx, hg⟩ : ∃ g, W10.heap.size = g := ⟨_, rfl⟩
              rw [hg] at hX11 hneX hloX c0 c1 ⊢
              clear hg
              clear c0 c1
              refine (hOb.out _).mono ?_
              rintro e W12 ⟨rfl, hb⟩
              have hT12 := hid (hT11.out.on hb)
              have hB12 := hid (below_up hb hB11.out)
              have hX12 := hid (hX11.out.below hb hX11.out.lt)
              clear hb hT11 hB11 hX11
              try (rename_i hKK; refine hKK _ _ ?_; clear hKK)
              have hneY := hid hT12.out.ne
              have hloY := hid hB12.out.size
              go_wp2_with (first
                | ((with_reducible refine at_slot (some 17) ?_); refine wpList_run rfl (.pointer (some ⟨W12.heap.size, 0, none⟩)) (W12.alloc (.cells z32 33)) (by kernel_rfl) ?_)
                | ((with_reducible refine at_slot none ?_); refine wpList_store_mid rfl 33 (.tmp 17) (.tmp 72) rfl W12.heap.size 0 (byteCells l).toArray rfl rfl (by exact hLC.out.there W12) (by exact hLC.out.size) (by exact hLC.out.one) ?_; generalize hW : World.setCells _ _ _ _ = W13; obtain ⟨hN, hb⟩ := hLC.out.new hW; have hT13 := hid (hT12.out.on hb); have hB13 := hid (below_up hb hB12.out); have hX13 := hid (hX12.out.below hb hX12.out.lt); have hY13 := hid hN; clear hb hT12 hB12 hX12 hN; clear hW)
                | ((with_reducible refine at_slot (some 75) ?_); refine wpList_load_mid rfl 33 (.tmp 17) rfl W12.heap.size 0 rfl (byteCells l) _ (by exact h_all hY13.out) Try.underlying33 rfl (by exact hLC2.out) ?_)
                | fail)
              obtain ⟨gy, hg⟩ : ∃ g, W12.heap.size = g := ⟨_, rfl⟩
              rw [hg] at hY13 hneY hloY ⊢
              clear hg
              refine (hG1.out _ hT13.out).mono ?_
              rintro e W14 ⟨rfl, hb⟩
              have hT14 := hid (hT13.out.on hb)
              have hB14 := hid (below_up hb hB13.out)
              have hX14 := hid (hX13.out.below hb hX13.out.lt)
              have hY14 := hid (hY13.out.below hb hY13.out.lt)
              clear hb hT13 hB13 hX13 hY13
              try (rename_i hKK; refine hKK _ _ ?_; clear hKK)
              go_wp2_with (first
                | ((with_reducible refine at_slot (some 81) ?_); refine wpList_load_mid rfl 33 (.tmp 17) rfl gy 0 rfl (byteCells l) _ (by exact h_all hY14.out) Try.underlying33 rfl (by exact hLC2.out) ?_)
                | fail)
              refine (hR1.out _ hT14.out).mono ?_
              rintro e W15 ⟨rfl, hb⟩
              have hT15 := hid (hT14.out.on hb)
              have hB15 := hid (below_up hb hB14.out)
              have hX15 := hid (hX14.out.below hb hX14.out.lt)
              have hY15 := hid (hY14.out.below hb hY14.out.lt)
              clear hb hT14 hB14 hX14 hY14
              try (rename_i hKK; refine hKK _ _ ?_; clear hKK)
              go_wp2_with (first
                | ((with_reducible refine at_slot (some 88) ?_); refine wpList_load_any rfl 33 (.tmp 87) rfl (⟨gx, 2, none⟩) rfl (byteCells hh) _ (by exact hX15.out.ach) Try.underlying33 rfl (by exact hHC2.out) ?_)
                | fail)
              refine (hG2.out _ hT15.out).mono ?_
              rintro e W16 ⟨rfl, hb⟩
              have hT16 := hid (hT15.out.on hb)
              have hB16 := hid (below_up hb hB15.out)
              have hX16 := hid (hX15.out.below hb hX15.out.lt)
              have hY16 := hid (hY15.out.below hb hY15.out.lt)
              clear hb hT15 hB15 hX15 hY15
              try (rename_i hKK; refine hKK _ _ ?_; clear hKK)
              go_wp2_with (first
                | ((with_reducible refine at_slot (some 95) ?_); refine wpList_load_any rfl 33 (.tmp 94) rfl (⟨gx, 2, none⟩) rfl (byteCells hh) _ (by exact hX16.out.ach) Try.underlying33 rfl (by exact hHC2.out) ?_)
                | fail)
              refine (hR2.out _ hT16.out).mono ?_
              rintro e W17 ⟨rfl, hb⟩
              have hT17 := hid (hT16.out.on hb)
              have hB17 := hid (below_up hb hB16.out)
              have hX17 := hid (hX16.out.below hb hX16.out.lt)
              have hY17 := hid (hY16.out.below hb hY16.out.lt)
              clear hb hT16 hB16 hX16 hY16
              try (rename_i hKK; refine hKK _ _ ?_; clear hKK)
              go_wp2_with (first
                | (go_at_call 17; refine (errNum_any _ _).mono ?_; rintro e w' ⟨rfl, rfl⟩)
                | fail)
              try clear c0 c1
              go_wp2_with fail
              refine (obLen_any _ _ _ _ _ hT17.out.own).mono ?_
              rintro e w' ⟨rfl, hw⟩
              obtain rfl := hw.symm
              clear hw
              try (rename_i hKK; refine hKK _ _ ?_; clear hKK)
              go_wp2_with fail
              refine (rLen_any _ _ _ _ _ hT17.out.doc).mono ?_
              rintro e w' ⟨rfl, hw⟩
              obtain rfl := hw.symm
              clear hw
              try (rename_i hKK; refine hKK _ _ ?_; clear hKK)
              go_wp2_with fail
              go_roundw
              case rel => exact ⟨i + 1, m, by omega, by go_num, hT17.out, hB17.out⟩
              case measure => simp [intOf]; omega
      · have hend : ¬ ((i : Int) < (len : Int)) ∨ ((i : Int) < (len : Int)) ∧ ¬ ((i : Int) < 60) := by omega
        clear hlt
        rcases hend with hend | ⟨hend, hend2⟩
        all_goals
          go_wp2_with fail
          try (rename_i hKK; refine hKK _ _ ?_; clear hKK)
          try (go_wp2_with fail)
          refine (awake11_any _).mono ?_
          rintro e w' ⟨rfl, hb⟩
          have hB' := hid (hB10.out.trans (hb.mono hB10.out.size))
          clear hb
          try (rename_i hKK; refine hKK _ _ ?_; clear hKK)
          try (go_wp2_with fail)
          go_ret
          exact ⟨rfl, hB'.out⟩
  · have hN := hid (fun V => obNew_no most hm V)
    have hM := hid (fun V => rNew_no most hm V)
    clear hX hm
    go_enter Try.func3, Try.ntmps3
    go_wp2_with fail
    refine (hN.out _).mono ?_
    rintro e w' ⟨rfl, hw⟩
    obtain rfl := hw.symm
    clear hw
    try (rename_i hKK; refine hKK _ _ ?_; clear hKK)
    go_wp2_with fail
    refine (hM.out _).mono ?_
    rintro e w' ⟨rfl, hw⟩
    obtain rfl := hw.symm
    clear hw
    try (rename_i hKK; refine hKK _ _ ?_; clear hKK)
    go_wp2_with (go_at_call 17; refine (errNum_any _ _).mono ?_; rintro e w' ⟨rfl, rfl⟩)
    refine (awake11_any _).mono ?_
    rintro e w' ⟨rfl, hb⟩
    go_wp2_with fail
    go_ret
    exact ⟨rfl, hb⟩


end Go.Proofs.Ytbclmkpigdeilaa
