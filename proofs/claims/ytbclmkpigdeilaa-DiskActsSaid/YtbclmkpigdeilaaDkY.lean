/- Layer 7: DiskActs. -/
import Derived.Test.YtbclmkpigdeilaaDkX
import Derived.Test.YtbclmkpigdeilaaDkF
import Derived.Test.YtbclmkpigdeilaaDkG
namespace Go.Proofs.Ytbclmkpigdeilaa
open Go.RowKit
open Go.Lib (strCells strCells_length strCells_oneCell)

theorem act_there (W : World) (cs : Array Value) (h : cs.size = 4) : (W.alloc (.cells #[.int .i64 0, .int .i64 0, .string ⟨#[]⟩, .int .i64 0] 63)).there W.heap.size 0 cs.size := (Holds.new W 63 #[.int .i64 0, .int .i64 0, .string ⟨#[]⟩, .int .i64 0]).there 0 _ (by rw [h]; exact Nat.le_refl 4)
theorem act_new {a : DkAct} {W W7 : World} (h : (W.alloc (.cells #[.int .i64 0, .int .i64 0, .string ⟨#[]⟩, .int .i64 0] 63)).setCells W.heap.size 0 a.cells = W7) : Holds W7 W.heap.size 63 a.cells ∧ Below W.heap.size W W7 := by
  have hH := Holds.new W 63 #[.int .i64 0, .int .i64 0, .string ⟨#[]⟩, .int .i64 0]
  have hb : Below W.heap.size W (W.alloc (.cells #[.int .i64 0, .int .i64 0, .string ⟨#[]⟩, .int .i64 0] 63)) := (Below.refl _ _).alloc (Nat.le_refl _) _
  refine ⟨?_, below_store hb (Nat.le_refl _) h⟩
  have h1 := hH.put 0 a.cells (Nat.le_refl 4)
  have e := put_all (#[Value.int .i64 0, .int .i64 0, .string ⟨#[]⟩, .int .i64 0] : Array Value).toList a.cells rfl
  rw [h, e] at h1
  exact h1
theorem act_size (a : DkAct) : (Try.prog.info? 63).map (·.size) = some a.cells.length := by show (Try.prog.info? 63).map (·.size) = some 4; kernel_rfl
theorem act_one (a : DkAct) : a.cells.toArray.all (·.oneCell') = true := all_oneCell_toArray (fun v hv => by
  unfold DkAct.cells at hv
  simp at hv
  rcases hv with rfl | rfl | rfl | rfl <;> rfl)

theorem row_lessR {w : World} {B B' x g1 c1 g2 c2 g3 n : Nat} {now thn : List ByteArray} {fl : List Bool} (h : RDiskAt w B x g1 c1 g2 c2 g3 n now thn fl) (hB : B' ≤ B) : RDiskAt w B' x g1 c1 g2 c2 g3 n now thn fl :=
  ⟨h.own, row_less h.now hB, row_less h.thn hB, h.fl_, h.fll, h.n12, h.most, h.pos, by have := h.nB; omega⟩
set_option maxRecDepth 100000 in
set_option maxHeartbeats 8000000 in
theorem DiskActs_law {w : World} (most : Int) (A : Option Addr) (len cap : Nat) (xs : List DkAct) (hX : DkActs w w.heap.size A len xs) (_ : len ≤ maxLen) :
    Calls Try.prog 6 #[.int .i64 most, .slice A len cap] w fun e w' => e = .returned (.bool true) ∧ Below w.heap.size w w' := by
  by_cases hm : 1 ≤ most ∧ most ≤ 256
  · obtain ⟨n, rfl⟩ : ∃ n : Nat, most = (n : Int) := ⟨most.toNat, by omega⟩
    have n1 : 1 ≤ n := by omega
    have n2 : n ≤ 256 := by omega
    have hN := hid (dkNew_yes n n1 n2 w)
    have hM := hid (fun V => rdNew_yes n n1 n2 V)
    have hX' := hid hX
    clear hX hm n1
    go_enter Try.func6, Try.ntmps6
    go_wp2_with fail
    refine hN.out.mono ?_
    rintro e W1 ⟨rfl, hS, hb⟩
    have hS1 := hid hS
    have hb1 := hid hb
    clear hS hb
    try (rename_i hKK; refine hKK _ _ ?_; clear hKK)
    go_wp2_with fail
    refine (hM.out _).mono ?_
    rintro e W2 ⟨g1, c1, g2, c2, rfl, hR, hb⟩
    have hR := row_lessR hR hb1.out.size
    obtain ⟨L, hL⟩ : ∃ L : DL, L = ⟨w.heap.size, w.heap.size + 2, w.heap.size, w.heap.size + 1, W1.heap.size + 1, g1, c1, g2, c2, W1.heap.size, n⟩ := ⟨_, rfl⟩
    have hT2 := hid (show TwoD W2 L (Dk.new n) (Dk.new n) from by rw [hL]; exact ⟨hS1.out.on hb, hR, Dk.fine.new n, Nat.le_refl _, Nat.le_succ _⟩)
    have hB2 := hid (hb1.out.trans (hb.mono hb1.out.size))
    have hLB := hid (show L.B = w.heap.size from by rw [hL])
    have hLn := hid (show L.n = n from by rw [hL])
    have e1 : w.heap.size + 2 = L.d := by rw [hL]
    have e2 : W1.heap.size + 1 = L.x := by rw [hL]
    rw [e2]
    try (rename_i hKK; refine hKK _ _ ?_; clear hKK)
    rw [e1]
    clear hR hb hS1 hb1 hN hM hL e1 e2
    go_wp2_with (first
      | (go_at_call 17; refine (errNum_any _ _).mono ?_; rintro e w' ⟨rfl, rfl⟩)
      | fail)
    go_loopw [9] (fun ix wr => ∃ (i : Nat) (D : Dk), i ≤ 100 ∧ ix = .int .i64 (i : Int) ∧ TwoD wr L D D ∧ Below w.heap.size w wr) (fun ix _ => 100 - (intOf ix).toNat)
    case atStart => exact ⟨0, _, by omega, rfl, hT2.out, hB2.out⟩
    case round =>
      obtain ⟨i, D, hi, rfl, hTr, hBr⟩ := hrel
      obtain ⟨W10, rfl⟩ : ∃ V, V = wr := ⟨_, rfl⟩
      have hT10 := hid hTr
      have hB10 := hid hBr
      clear hTr hBr hT2 hB2
      by_cases hlt : i < len ∧ i < 100
      · obtain ⟨hl1, hl2⟩ := hlt
        have hl1' : (i : Int) < (len : Int) := by omega
        have hl2' : (i : Int) < 100 := by omega
        have s3 : (0 : Int) ≤ (i : Int) := by omega
        have hiw := IntWalk.i64_in ((i : Int) + 1) (by omega)
        obtain ⟨p, x, rfl, hxf, hpB, hc⟩ := (hX'.out.below hB10.out).get hl1
        have hc' := hid hc
        have hlo := hid (show W10.heap.size ≠ L.B - 1 ∧ w.heap.size ≤ W10.heap.size from ⟨by have := hT10.out.size; have := hT10.out.own.lt; omega, hB10.out.size⟩)
        obtain ⟨kd, pl, sx, kp⟩ := x
        clear hc hxf hpB hlo
        by_cases hk5 : kd < 5
        · as_aux_lemma =>
            obtain ⟨⟨cw, Dw⟩, hcw⟩ : ∃ z, wrAns L.n D pl sx = z := ⟨_, rfl⟩
            have hP := hid (fun V (h : TwoD V L D D) => tdWrite hcw h)
            have hQ := hid (fun V (h : TwoD V L Dw D) => tdWriteR hcw h)
            clear hcw
            go_wp2_with (first
              | ((with_reducible refine at_slot (some 66) ?_); refine wpList_load_any rfl 63 (.tmp 65) rfl (p.add (i * 4)) rfl (DkAct.cells ⟨kd, pl, sx, kp⟩) _ (by exact hc'.out) Try.underlying63 rfl (by exact act_size _) ?_)
              | ((with_reducible refine at_slot (some 10) ?_); refine wpList_run rfl (.pointer (some ⟨W10.heap.size, 0, none⟩)) (W10.alloc (.cells #[.int .i64 0, .int .i64 0, .string ⟨#[]⟩, .int .i64 0] 63)) (by kernel_rfl) ?_)
              | ((with_reducible refine at_slot none ?_); refine wpList_store_mid rfl 63 (.tmp 10) (.tmp 66) rfl W10.heap.size 0 (DkAct.cells ⟨kd, pl, sx, kp⟩).toArray rfl rfl (by exact act_there W10 _ rfl) (by exact act_size _) (by exact act_one _) ?_; generalize hW : World.setCells _ _ _ _ = W11; obtain ⟨hN, hb⟩ := act_new hW; clear hW; have hT11 := hid (hT10.out.on hb); have hB11 := hid (bup hb hB10.out); have hX11 := hid hN; clear hb hT10 hB10 hN; have c0 := hX11.out.cK 0 (.int .i64 kd) rfl; have c1 := hX11.out.cK 1 (.int .i64 pl) rfl; have c2 := hX11.out.cK 2 (.string sx) rfl; have c3 := hX11.out.cK 3 (.int .i64 kp) rfl)
              | fail)
            obtain ⟨gx, hg⟩ : ∃ g, W10.heap.size = g := ⟨_, rfl⟩
            rw [hg] at hX11 c0 c1 c2 c3 ⊢
            clear hg
            go_wp2_with fail
            clear c0 c1 c2 c3
            refine (hP.out _ hT11.out).mono ?_
            rintro e W12 ⟨rfl, hT, hb, hkk⟩
            have hT12 := hid hT
            have hB12 := hid (hB11.out.trans (by have h := hb; rw [hLB.out] at h; exact h))
            have hX12 := hid (hkk gx _ _ hX11.out (by decide) (by decide) (by decide))
            clear hT hb hkk hT11 hB11 hX11
            try (rename_i hKK; refine hKK _ _ ?_; clear hKK)
            have c0 := hX12.out.cK 0 (.int .i64 kd) rfl
            have c1 := hX12.out.cK 1 (.int .i64 pl) rfl
            have c2 := hX12.out.cK 2 (.string sx) rfl
            have c3 := hX12.out.cK 3 (.int .i64 kp) rfl
            go_wp2_with fail
            clear c0 c1 c2 c3
            have hb : Below W12.heap.size W12 W12.drew := (Below.refl _ _).drew
            have hT13 := hid (hT12.out.on hb)
            have hB13 := hid (bup hb hB12.out)
            have hX13 := hid (hX12.out.below hb hX12.out.lt)
            clear hb hT12 hB12 hX12
            refine wp_region_held_drew (S := fun V => Holds V gx 63 (DkAct.cells ⟨kd, pl, sx, kp⟩)) (by kernel_rfl) (by exact hX13.out) (fun hHeld => ?_)
            generalize W12.drew = W13 at *
            refine tkn 0 (.int .i64 cw) rfl (by kernel_rfl) (fun _ _ _ h => h) (yieldsIf_move _ rfl rfl rfl) hHeld ?_
            simp only [ly, Act.put]
            refine tkn 2 (.pointer (some ⟨L.x, 0, none⟩)) rfl (by kernel_rfl) (fun _ _ _ h => h) (yieldsIf_move _ rfl rfl rfl) hHeld ?_
            simp only [ly, Act.put]
            refine tkn 3 (.pointer (some ⟨gx, 1, none⟩)) rfl (by kernel_rfl) (fun _ _ _ h => h) (.inl ⟨by kernel_rfl, fun w _ => by go_simp⟩) hHeld ?_
            simp only [ly, Act.put]
            refine tkn 4 (.int .i64 pl) rfl (by kernel_rfl) (fun _ _ _ h => h) (.inl ⟨by kernel_rfl, fun V hS => by have c1 := hS.cK 1 (.int .i64 pl) rfl; go_simp⟩) hHeld ?_
            simp only [ly, Act.put]
            refine tkn 5 (.pointer (some ⟨gx, 2, none⟩)) rfl (by kernel_rfl) (fun _ _ _ h => h) (.inl ⟨by kernel_rfl, fun w _ => by go_simp⟩) hHeld ?_
            simp only [ly, Act.put]
            refine tkn 6 (.string sx) rfl (by kernel_rfl) (fun _ _ _ h => h) (.inl ⟨by kernel_rfl, fun V hS => by have c2 := hS.cK 2 (.string sx) rfl; go_simp⟩) hHeld ?_
            simp only [ly, Act.put]
            refine wpAnyH_ready (rs := [1]) (by kernel_rfl) (by simp) (AllReadyH.cons rfl (fun K hK => ?_) AllReadyH.nil)
            have hK' := hid hK
            clear hK
            rw [if_pos (by kernel_rfl)]
            simp only [ly1, ly2, ly3]
            go_simp
            refine (errNum_any _ _).mono ?_
            rintro e w' ⟨rfl, rfl⟩
            refine hK'.out _ _ (by exact hX13.out) (fun hHeld => ?_)
            clear hK' K
            refine wpAnyH_ready (rs := [7]) (by kernel_rfl) (by simp) (AllReadyH.cons rfl (fun K hK => ?_) AllReadyH.nil)
            have hK' := hid hK
            clear hK
            rw [if_pos (by kernel_rfl)]
            simp only [ly1, ly2, ly3]
            go_simp
            refine (hQ.out _ hT13.out).mono ?_
            rintro e W14 ⟨rfl, hT, hb, hkk⟩
            have hT14 := hid hT
            have hB14 := hid (hB13.out.trans (by have h := hb; rw [hLB.out] at h; exact h))
            have hX14 := hid (hkk gx _ _ hX13.out (by decide) (by decide) (by decide))
            clear hT hb hkk hT13 hB13 hX13
            try (rename_i hKK; refine hKK _ _ ?_; clear hKK)
            refine hK'.out _ _ (by exact hX14.out) (fun hHeld => ?_)
            clear hK' K
            refine tkn 8 (.bool false) rfl (by kernel_rfl) (fun _ _ _ h => h) (.inl ⟨by kernel_rfl, fun w _ => by go_simp⟩) hHeld ?_
            simp only [ly, Act.put]
            refine wpAnyH_done (by kernel_rfl) ?_ _
            skip
            go_wp2_with fail
            refine (dkDirty_any _ _ _ _ _ _ hT14.out.own).mono ?_
            rintro e w' ⟨rfl, rfl⟩
            try (rename_i hKK; refine hKK _ _ ?_; clear hKK)
            go_wp2_with fail
            refine (rdDirty_any hT14.out.fin _ hT14.out.doc).mono ?_
            rintro e w' ⟨rfl, rfl⟩
            try (rename_i hKK; refine hKK _ _ ?_; clear hKK)
            go_wp2_with fail
            refine (dkSectors_any _ _ _ _ _ _ hT14.out.own).mono ?_
            rintro e w' ⟨rfl, rfl⟩
            try (rename_i hKK; refine hKK _ _ ?_; clear hKK)
            go_wp2_with fail
            refine (rdSectors_any _ hT14.out.doc).mono ?_
            rintro e w' ⟨rfl, rfl⟩
            try (rename_i hKK; refine hKK _ _ ?_; clear hKK)
            go_wp2_with fail
            go_roundw
            case rel => exact ⟨i + 1, _, by omega, by go_num, hT14.out, hB14.out⟩
            case measure => simp [intOf]; omega
        · by_cases hk7 : kd < 7
          · as_aux_lemma =>
              obtain ⟨⟨sr, cr⟩, hcr⟩ : ∃ z, rdAns L.n D pl = z := ⟨_, rfl⟩
              have hP := hid (fun V (h : TwoD V L D D) => tdRead hcr h)
              have hQ := hid (fun V (h : TwoD V L D D) => tdReadR hcr h)
              clear hcr
              go_wp2_with (first
                | ((with_reducible refine at_slot (some 66) ?_); refine wpList_load_any rfl 63 (.tmp 65) rfl (p.add (i * 4)) rfl (DkAct.cells ⟨kd, pl, sx, kp⟩) _ (by exact hc'.out) Try.underlying63 rfl (by exact act_size _) ?_)
                | ((with_reducible refine at_slot (some 10) ?_); refine wpList_run rfl (.pointer (some ⟨W10.heap.size, 0, none⟩)) (W10.alloc (.cells #[.int .i64 0, .int .i64 0, .string ⟨#[]⟩, .int .i64 0] 63)) (by kernel_rfl) ?_)
                | ((with_reducible refine at_slot none ?_); refine wpList_store_mid rfl 63 (.tmp 10) (.tmp 66) rfl W10.heap.size 0 (DkAct.cells ⟨kd, pl, sx, kp⟩).toArray rfl rfl (by exact act_there W10 _ rfl) (by exact act_size _) (by exact act_one _) ?_; generalize hW : World.setCells _ _ _ _ = W11; obtain ⟨hN, hb⟩ := act_new hW; clear hW; have hT11 := hid (hT10.out.on hb); have hB11 := hid (bup hb hB10.out); have hX11 := hid hN; clear hb hT10 hB10 hN; have c0 := hX11.out.cK 0 (.int .i64 kd) rfl; have c1 := hX11.out.cK 1 (.int .i64 pl) rfl; have c2 := hX11.out.cK 2 (.string sx) rfl; have c3 := hX11.out.cK 3 (.int .i64 kp) rfl)
                | fail)
              obtain ⟨gx, hg⟩ : ∃ g, W10.heap.size = g := ⟨_, rfl⟩
              rw [hg] at hX11 c0 c1 c2 c3 ⊢
              clear hg
              go_wp2_with fail
              refine (hP.out _ hT11.out).mono ?_
              rintro e w' ⟨rfl, rfl⟩
              try (rename_i hKK; refine hKK _ _ ?_; clear hKK)
              go_wp2_with fail
              refine (hQ.out _ hT11.out).mono ?_
              rintro e w' ⟨rfl, rfl⟩
              try (rename_i hKK; refine hKK _ _ ?_; clear hKK)
              clear c0 c1 c2 c3
              go_wp2_with (first
                | (go_at_call 17; refine (errNum_any _ _).mono ?_; rintro e w' ⟨rfl, rfl⟩)
                | fail)
              skip
              go_wp2_with fail
              refine (dkDirty_any _ _ _ _ _ _ hT11.out.own).mono ?_
              rintro e w' ⟨rfl, rfl⟩
              try (rename_i hKK; refine hKK _ _ ?_; clear hKK)
              go_wp2_with fail
              refine (rdDirty_any hT11.out.fin _ hT11.out.doc).mono ?_
              rintro e w' ⟨rfl, rfl⟩
              try (rename_i hKK; refine hKK _ _ ?_; clear hKK)
              go_wp2_with fail
              refine (dkSectors_any _ _ _ _ _ _ hT11.out.own).mono ?_
              rintro e w' ⟨rfl, rfl⟩
              try (rename_i hKK; refine hKK _ _ ?_; clear hKK)
              go_wp2_with fail
              refine (rdSectors_any _ hT11.out.doc).mono ?_
              rintro e w' ⟨rfl, rfl⟩
              try (rename_i hKK; refine hKK _ _ ?_; clear hKK)
              go_wp2_with fail
              go_roundw
              case rel => exact ⟨i + 1, _, by omega, by go_num, hT11.out, hB11.out⟩
              case measure => simp [intOf]; omega
          · by_cases hk9 : kd < 9
            · as_aux_lemma =>
                go_wp2_with (first
                  | ((with_reducible refine at_slot (some 66) ?_); refine wpList_load_any rfl 63 (.tmp 65) rfl (p.add (i * 4)) rfl (DkAct.cells ⟨kd, pl, sx, kp⟩) _ (by exact hc'.out) Try.underlying63 rfl (by exact act_size _) ?_)
                  | ((with_reducible refine at_slot (some 10) ?_); refine wpList_run rfl (.pointer (some ⟨W10.heap.size, 0, none⟩)) (W10.alloc (.cells #[.int .i64 0, .int .i64 0, .string ⟨#[]⟩, .int .i64 0] 63)) (by kernel_rfl) ?_)
                  | ((with_reducible refine at_slot none ?_); refine wpList_store_mid rfl 63 (.tmp 10) (.tmp 66) rfl W10.heap.size 0 (DkAct.cells ⟨kd, pl, sx, kp⟩).toArray rfl rfl (by exact act_there W10 _ rfl) (by exact act_size _) (by exact act_one _) ?_; generalize hW : World.setCells _ _ _ _ = W11; obtain ⟨hN, hb⟩ := act_new hW; clear hW; have hT11 := hid (hT10.out.on hb); have hB11 := hid (bup hb hB10.out); have hX11 := hid hN; clear hb hT10 hB10 hN; have c0 := hX11.out.cK 0 (.int .i64 kd) rfl; have c1 := hX11.out.cK 1 (.int .i64 pl) rfl; have c2 := hX11.out.cK 2 (.string sx) rfl; have c3 := hX11.out.cK 3 (.int .i64 kp) rfl)
                  | fail)
                obtain ⟨gx, hg⟩ : ∃ g, W10.heap.size = g := ⟨_, rfl⟩
                rw [hg] at hX11 c0 c1 c2 c3 ⊢
                clear hg
                go_wp2_with fail
                clear c0 c1 c2 c3
                refine (tdSync hT11.out).mono ?_
                rintro e W12 ⟨rfl, hT, hb, hkk⟩
                have hT12 := hid hT
                have hB12 := hid (hB11.out.trans (by have h := hb; rw [hLB.out] at h; exact h))
                have hX12 := hid (hkk gx _ _ hX11.out (by decide) (by decide) (by decide))
                clear hT hb hkk hT11 hB11 hX11
                try (rename_i hKK; refine hKK _ _ ?_; clear hKK)
                go_wp2_with fail
                refine (tdSyncR hT12.out).mono ?_
                rintro e W13 ⟨rfl, hT, hb, hkk⟩
                have hT13 := hid hT
                have hB13 := hid (hB12.out.trans (by have h := hb; rw [hLB.out] at h; exact h))
                have hX13 := hid (hkk gx _ _ hX12.out (by decide) (by decide) (by decide))
                clear hT hb hkk hT12 hB12 hX12
                try (rename_i hKK; refine hKK _ _ ?_; clear hKK)
                go_wp2_with (first
                  | (go_at_call 17; refine (errNum_any _ _).mono ?_; rintro e w' ⟨rfl, rfl⟩)
                  | fail)
                skip
                go_wp2_with fail
                refine (dkDirty_any _ _ _ _ _ _ hT13.out.own).mono ?_
                rintro e w' ⟨rfl, rfl⟩
                try (rename_i hKK; refine hKK _ _ ?_; clear hKK)
                go_wp2_with fail
                refine (rdDirty_any hT13.out.fin _ hT13.out.doc).mono ?_
                rintro e w' ⟨rfl, rfl⟩
                try (rename_i hKK; refine hKK _ _ ?_; clear hKK)
                go_wp2_with fail
                refine (dkSectors_any _ _ _ _ _ _ hT13.out.own).mono ?_
                rintro e w' ⟨rfl, rfl⟩
                try (rename_i hKK; refine hKK _ _ ?_; clear hKK)
                go_wp2_with fail
                refine (rdSectors_any _ hT13.out.doc).mono ?_
                rintro e w' ⟨rfl, rfl⟩
                try (rename_i hKK; refine hKK _ _ ?_; clear hKK)
                go_wp2_with fail
                go_roundw
                case rel => exact ⟨i + 1, _, by omega, by go_num, hT13.out, hB13.out⟩
                case measure => simp [intOf]; omega
            · as_aux_lemma =>
                go_wp2_with (first
                  | ((with_reducible refine at_slot (some 66) ?_); refine wpList_load_any rfl 63 (.tmp 65) rfl (p.add (i * 4)) rfl (DkAct.cells ⟨kd, pl, sx, kp⟩) _ (by exact hc'.out) Try.underlying63 rfl (by exact act_size _) ?_)
                  | ((with_reducible refine at_slot (some 10) ?_); refine wpList_run rfl (.pointer (some ⟨W10.heap.size, 0, none⟩)) (W10.alloc (.cells #[.int .i64 0, .int .i64 0, .string ⟨#[]⟩, .int .i64 0] 63)) (by kernel_rfl) ?_)
                  | ((with_reducible refine at_slot none ?_); refine wpList_store_mid rfl 63 (.tmp 10) (.tmp 66) rfl W10.heap.size 0 (DkAct.cells ⟨kd, pl, sx, kp⟩).toArray rfl rfl (by exact act_there W10 _ rfl) (by exact act_size _) (by exact act_one _) ?_; generalize hW : World.setCells _ _ _ _ = W11; obtain ⟨hN, hb⟩ := act_new hW; clear hW; have hT11 := hid (hT10.out.on hb); have hB11 := hid (bup hb hB10.out); have hX11 := hid hN; clear hb hT10 hB10 hN; have c0 := hX11.out.cK 0 (.int .i64 kd) rfl; have c1 := hX11.out.cK 1 (.int .i64 pl) rfl; have c2 := hX11.out.cK 2 (.string sx) rfl; have c3 := hX11.out.cK 3 (.int .i64 kp) rfl)
                  | fail)
                obtain ⟨gx, hg⟩ : ∃ g, W10.heap.size = g := ⟨_, rfl⟩
                rw [hg] at hX11 c0 c1 c2 c3 ⊢
                clear hg
                go_wp2_with fail
                clear c0 c1 c2 c3
                refine (tdCrash kp hT11.out).mono ?_
                rintro e W12 ⟨rfl, hT, hb, hkk⟩
                have hT12 := hid hT
                have hB12 := hid (hB11.out.trans (by have h := hb; rw [hLB.out] at h; exact h))
                have hX12 := hid (hkk gx _ _ hX11.out (by decide) (by decide) (by decide))
                clear hT hb hkk hT11 hB11 hX11
                try (rename_i hKK; refine hKK _ _ ?_; clear hKK)
                have c0 := hX12.out.cK 0 (.int .i64 kd) rfl
                have c1 := hX12.out.cK 1 (.int .i64 pl) rfl
                have c2 := hX12.out.cK 2 (.string sx) rfl
                have c3 := hX12.out.cK 3 (.int .i64 kp) rfl
                go_wp2_with fail
                clear c0 c1 c2 c3
                refine (tdCrashR kp hT12.out).mono ?_
                rintro e W13 ⟨rfl, hT, hb, hkk⟩
                have hT13 := hid hT
                have hB13 := hid (hB12.out.trans (by have h := hb; rw [hLB.out] at h; exact h))
                have hX13 := hid (hkk gx _ _ hX12.out (by decide) (by decide) (by decide))
                clear hT hb hkk hT12 hB12 hX12
                try (rename_i hKK; refine hKK _ _ ?_; clear hKK)
                go_wp2_with (first
                  | (go_at_call 17; refine (errNum_any _ _).mono ?_; rintro e w' ⟨rfl, rfl⟩)
                  | fail)
                skip
                go_wp2_with fail
                refine (dkDirty_any _ _ _ _ _ _ hT13.out.own).mono ?_
                rintro e w' ⟨rfl, rfl⟩
                try (rename_i hKK; refine hKK _ _ ?_; clear hKK)
                go_wp2_with fail
                refine (rdDirty_any hT13.out.fin _ hT13.out.doc).mono ?_
                rintro e w' ⟨rfl, rfl⟩
                try (rename_i hKK; refine hKK _ _ ?_; clear hKK)
                go_wp2_with fail
                refine (dkSectors_any _ _ _ _ _ _ hT13.out.own).mono ?_
                rintro e w' ⟨rfl, rfl⟩
                try (rename_i hKK; refine hKK _ _ ?_; clear hKK)
                go_wp2_with fail
                refine (rdSectors_any _ hT13.out.doc).mono ?_
                rintro e w' ⟨rfl, rfl⟩
                try (rename_i hKK; refine hKK _ _ ?_; clear hKK)
                go_wp2_with fail
                go_roundw
                case rel => exact ⟨i + 1, _, by omega, by go_num, hT13.out, hB13.out⟩
                case measure => simp [intOf]; omega
      · have hend : ¬ ((i : Int) < (len : Int)) ∨ ((i : Int) < (len : Int)) ∧ ¬ ((i : Int) < 100) := by omega
        clear hlt
        rcases hend with hend | ⟨hend, hend2⟩
        · as_aux_lemma =>
            go_wp2_with fail
            go_loopw [18] (fun ix wr => ∃ j : Nat, j ≤ n ∧ ix = .int .i64 (j : Int) ∧ TwoD wr L D D ∧ Below w.heap.size w wr) (fun ix _ => n - (intOf ix).toNat)
            case atStart => exact ⟨0, Nat.zero_le _, rfl, hT10.out, hB10.out⟩
            case round =>
              obtain ⟨j, hj, rfl, hTr, hBr⟩ := hrel
              obtain ⟨W20, rfl⟩ : ∃ V, V = wr := ⟨_, rfl⟩
              have hT20 := hid hTr
              have hB20 := hid hBr
              clear hTr hBr hT10 hB10
              by_cases hjt : j < n
              · have hjt' : (j : Int) < (n : Int) := by omega
                have s3 : (0 : Int) ≤ (j : Int) := by omega
                have hjw := IntWalk.i64_in ((j : Int) + 1) (by omega)
                obtain ⟨⟨sr, cr⟩, hcr⟩ : ∃ z, rdAns L.n D (j : Int) = z := ⟨_, rfl⟩
                have hP := hid (tdRead hcr hT20.out)
                have hQ := hid (tdReadR hcr hT20.out)
                clear hcr
                go_wp2_with fail
                refine hP.out.mono ?_
                rintro e w' ⟨rfl, rfl⟩
                try (rename_i hKK; refine hKK _ _ ?_; clear hKK)
                go_wp2_with fail
                refine hQ.out.mono ?_
                rintro e w' ⟨rfl, rfl⟩
                try (rename_i hKK; refine hKK _ _ ?_; clear hKK)
                go_wp2_with fail
                go_roundw
                case rel => exact ⟨j + 1, by omega, by go_num, hT20.out, hB20.out⟩
                case measure => simp [intOf]; omega
              · obtain rfl : j = n := by omega
                go_wp2_with fail
                refine (awake7_any _).mono ?_
                rintro e w' ⟨rfl, hb⟩
                have hB' := hid (hB20.out.trans (hb.mono hB20.out.size))
                clear hb
                try (rename_i hKK; refine hKK _ _ ?_; clear hKK)
                go_wp2_with fail
                go_ret
                exact ⟨rfl, hB'.out⟩
        · as_aux_lemma =>
            go_wp2_with fail
            go_loopw [18] (fun ix wr => ∃ j : Nat, j ≤ n ∧ ix = .int .i64 (j : Int) ∧ TwoD wr L D D ∧ Below w.heap.size w wr) (fun ix _ => n - (intOf ix).toNat)
            case atStart => exact ⟨0, Nat.zero_le _, rfl, hT10.out, hB10.out⟩
            case round =>
              obtain ⟨j, hj, rfl, hTr, hBr⟩ := hrel
              obtain ⟨W20, rfl⟩ : ∃ V, V = wr := ⟨_, rfl⟩
              have hT20 := hid hTr
              have hB20 := hid hBr
              clear hTr hBr hT10 hB10
              by_cases hjt : j < n
              · have hjt' : (j : Int) < (n : Int) := by omega
                have s3 : (0 : Int) ≤ (j : Int) := by omega
                have hjw := IntWalk.i64_in ((j : Int) + 1) (by omega)
                obtain ⟨⟨sr, cr⟩, hcr⟩ : ∃ z, rdAns L.n D (j : Int) = z := ⟨_, rfl⟩
                have hP := hid (tdRead hcr hT20.out)
                have hQ := hid (tdReadR hcr hT20.out)
                clear hcr
                go_wp2_with fail
                refine hP.out.mono ?_
                rintro e w' ⟨rfl, rfl⟩
                try (rename_i hKK; refine hKK _ _ ?_; clear hKK)
                go_wp2_with fail
                refine hQ.out.mono ?_
                rintro e w' ⟨rfl, rfl⟩
                try (rename_i hKK; refine hKK _ _ ?_; clear hKK)
                go_wp2_with fail
                go_roundw
                case rel => exact ⟨j + 1, by omega, by go_num, hT20.out, hB20.out⟩
                case measure => simp [intOf]; omega
              · obtain rfl : j = n := by omega
                go_wp2_with fail
                refine (awake7_any _).mono ?_
                rintro e w' ⟨rfl, hb⟩
                have hB' := hid (hB20.out.trans (hb.mono hB20.out.size))
                clear hb
                try (rename_i hKK; refine hKK _ _ ?_; clear hKK)
                go_wp2_with fail
                go_ret
                exact ⟨rfl, hB'.out⟩
  · have hN := hid (fun V => dkNew_no most hm V)
    have hM := hid (fun V => rdNew_no most hm V)
    clear hX hm
    go_enter Try.func6, Try.ntmps6
    go_wp2_with fail
    refine (hN.out _).mono ?_
    rintro e w' ⟨rfl, hw⟩
    obtain rfl := hw.symm
    clear hw
    try (rename_i hKK; refine hKK _ _ ?_; clear hKK)
    go_wp2_with fail
    refine (hM.out _).mono ?_
    rintro e w' ⟨rfl, hw⟩
    obtain rfl := hw.symm
    clear hw
    try (rename_i hKK; refine hKK _ _ ?_; clear hKK)
    go_wp2_with (first
      | (go_at_call 17; refine (errNum_any _ _).mono ?_; rintro e w' ⟨rfl, rfl⟩)
      | fail)
    refine (awake7_any _).mono ?_
    rintro e w' ⟨rfl, hb⟩
    try (rename_i hKK; refine hKK _ _ ?_; clear hKK)
    go_wp2_with fail
    go_ret
    exact ⟨rfl, hb⟩


end Go.Proofs.Ytbclmkpigdeilaa
