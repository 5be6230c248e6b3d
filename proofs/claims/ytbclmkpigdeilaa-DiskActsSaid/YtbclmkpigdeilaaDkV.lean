/- Layer 7, the reference's side: Crash. -/
import Derived.Test.YtbclmkpigdeilaaDkU
namespace Go.Proofs.Ytbclmkpigdeilaa
open Go.RowKit
open Go.Lib (strCells strCells_length strCells_oneCell)

theorem crash_xs {n : Nat} {D : Dk} (h : D.fine n) (keep : Int) {i : Nat} (hi : i < n) : (D.crash keep).xs[i]? = some (D.crashAt keep i) := by
  unfold Dk.crash
  rw [List.getElem?_map, List.getElem?_range (by rw [h.len]; exact hi)]
  rfl
theorem crash_old {keep : Int} {D : Dk} {i : Nat} {o : ByteArray} (ho : oldGet D.old i = some o) : D.crashAt keep i = if keepB keep (rank D.old i) then D.xs.getD i ⟨#[]⟩ else o := by
  unfold Dk.crashAt
  rw [ho]

set_option maxRecDepth 100000 in
set_option maxHeartbeats 2000000 in
theorem rdCrash_any {B x g1 c1 g2 c2 g3 n : Nat} (keep : Int) {D : Dk} (hD : D.fine n) (w : World) (h : RDisk w B x g1 c1 g2 c2 g3 n D) : Calls Try.prog 39 #[.pointer (some ⟨x, 0, none⟩), .int .i64 keep] w fun e w' => e = .returned (.tuple #[]) ∧ RDisk w' B x g1 c1 g2 c2 g3 n (D.crash keep) ∧ TurnS (RS g1 g2 g3) w w' := by
  have hm := h.most
  have hfin := hid hD
  obtain ⟨C, hC⟩ : ∃ C, (D.crash keep).xs = C := ⟨_, rfl⟩
  have hCx := hid (show C.length = D.xs.length from by rw [← hC, (hD.crash keep).len, hD.len])
  have hCat := hid (fun i (hi : i < n) => show C[i]? = some (D.crashAt keep i) from by rw [← hC]; exact crash_xs hD keep hi)
  have hC' := hid hC
  have hn12 : ¬ g1 = g2 := h.n12
  have hn21 : ¬ g2 = g1 := fun e => hn12 e.symm
  have hA0 := hid (show RDiskAt w B x g1 c1 g2 c2 g3 n (mix C D.xs 0) (thnD n D) (flD n D) from h)
  clear h hC hD
  obtain ⟨W0, hW0⟩ : ∃ V, V = w := ⟨_, rfl⟩
  rw [← hW0] at hA0 ⊢
  clear hW0
  have hT0 := hid (TurnS.refl (RS g1 g2 g3) W0)
  go_enter Try.func39, Try.ntmps39
  go_wp2_with fail
  go_loopw [4, 5] (fun kx ix wr => ∃ q : Nat, q ≤ n ∧ ix = .int .i64 (q : Int) ∧ kx = .int .i64 ((rank D.old q : Nat) : Int) ∧ RDiskAt wr B x g1 c1 g2 c2 g3 n (mix C D.xs q) (thnD n D) (flD n D) ∧ TurnS (RS g1 g2 g3) W0 wr) (fun _ ix _ => n - (intOf ix).toNat)
  case atStart => exact ⟨0, Nat.zero_le _, rfl, rfl, hA0.out, hT0.out⟩
  case round =>
    obtain ⟨q, hq, rfl, rfl, hAr, hTr⟩ := hrel
    obtain ⟨W10, rfl⟩ : ∃ V, V = wr := ⟨_, rfl⟩
    have hA10 := hid hAr
    have hT10 := hid hTr
    clear hAr hTr hA0 hT0
    have c0 := hA10.out.own.cK 0 _ rfl
    have c2 := hA10.out.own.cK 2 _ rfl
    have hr := rank_le D.old q
    have hs := rank_succ D.old q
    obtain ⟨y, hy⟩ : ∃ y, rank D.old q = y := ⟨_, rfl⟩
    rw [hy] at hr hs ⊢
    by_cases hlt : q < n
    · have hlt' : (q : Int) < (n : Int) := by omega
      have s3 : (0 : Int) ≤ (q : Int) := by omega
      have y0 : (0 : Int) ≤ (y : Int) := by omega
      have w1 := IntWalk.i64_in ((q : Int) + 1) (by omega)
      have w2 := IntWalk.i64_in ((y : Int) + 1) (by omega)
      have hlt'' := hid hlt
      have hx := hid (xs_at hfin.out hlt)
      have cc := hA10.out.c3_ hlt
      rw [flD_at hlt] at cc
      cases hd : dirt D.old q with
      | false =>
        rw [hd] at cc hs
        have hs := hid hs
        have hmx := hid (mix_same (a := C) (b := D.xs) (i := q) (by rw [hCat.out q hlt, hx.out, D.crashAt_no keep hd]) hCx.out)
        clear hd hy hlt
        go_wp2_with fail
        go_roundw
        case rel => exact ⟨q + 1, by have := hlt''.out; omega, by go_num, by rw [hs.out]; rfl, by rw [hmx.out]; exact hA10.out, hT10.out⟩
        case measure => have := hlt''.out; simp [intOf]; omega
      | true =>
        rw [hd] at cc hs
        have hs := hid hs
        obtain ⟨o, ho⟩ := dirt_mem hd
        have hca := crash_old (keep := keep) ho
        rw [hy] at hca
        have hth := hid (show (thnD n D)[q]? = some o from by rw [thnD_at hlt, ho]; rfl)
        rcases keepB_cases keep y with ⟨kb, kt0, kt1, kt2⟩ | ⟨kb, kt0, kt1, kt2⟩ | ⟨kb, kt0, kt1⟩
        · rw [kb, if_pos rfl] at hca
          have hmx := hid (mix_same (a := C) (b := D.xs) (i := q) (by rw [hCat.out q hlt, hx.out, hca]) hCx.out)
          clear kb hd hy hlt ho hca
          go_wp2_with fail
          go_roundw
          case rel => exact ⟨q + 1, by have := hlt''.out; omega, by go_num, by rw [hs.out]; go_num, by rw [hmx.out]; exact hA10.out, hT10.out⟩
          case measure => have := hlt''.out; simp [intOf]; omega
        · rw [kb, if_neg (by decide)] at hca
          have hmx := hid (mix_set (a := C) (b := D.xs) (i := q) (x := o) (by rw [hCat.out q hlt, hca]) hCx.out)
          clear kb hd hy hlt ho hca
          go_wp2_with fail
          clear c0 c2 cc
          have hb : Below W10.heap.size W10 W10.drew := (Below.refl _ _).drew
          have hA11 := hid (hA10.out.on hb)
          have hT11 := hid (hT10.out.up hb)
          clear hb hA10 hT10
          refine wp_region_held_drew (S := fun V => V.cell? ⟨x, 1, none⟩ = some (.slice (some ⟨g2, 0, none⟩) n c2) ∧ V.cell? ⟨x, 0, none⟩ = some (.slice (some ⟨g1, 0, none⟩) n c1) ∧ V.cell? ⟨g2, q, none⟩ = some (.string o)) (by kernel_rfl) (by exact ⟨hA11.out.own.cK 1 _ rfl, hA11.out.own.cK 0 _ rfl, hA11.out.c2_ hth.out⟩) (fun hHeld => ?_)
          generalize W10.drew = W11 at *
          refine tkn 0 (.pointer (some ⟨x, 0, none⟩)) rfl (by kernel_rfl) (fun _ _ _ h => h) (yieldsIf_move _ rfl rfl rfl) hHeld ?_
          simp only [ly, Act.put]
          refine tkn 1 (.pointer (some ⟨x, 0, none⟩)) rfl (by kernel_rfl) (fun _ _ _ h => h) (.inl ⟨by kernel_rfl, fun w _ => by go_simp⟩) hHeld ?_
          simp only [ly, Act.put]
          refine tkn 2 (.pointer (some ⟨x, 0, none⟩)) rfl (by kernel_rfl) (fun _ _ _ h => h) (.inl ⟨by kernel_rfl, fun w _ => by go_simp⟩) hHeld ?_
          simp only [ly, Act.put]
          refine tkn 3 (.slice (some ⟨g1, 0, none⟩) n c1) rfl (by kernel_rfl) (fun _ _ _ h => h) (.inl ⟨by kernel_rfl, fun V hS => by have c0 := hS.2.1; go_simp⟩) hHeld ?_
          simp only [ly, Act.put]
          refine tkn 4 (.int .i64 (q : Int)) rfl (by kernel_rfl) (fun _ _ _ h => h) (yieldsIf_move _ rfl rfl rfl) hHeld ?_
          simp only [ly, Act.put]
          refine tkn 5 (.pointer (some ⟨x, 0, none⟩)) rfl (by kernel_rfl) (fun _ _ _ h => h) (yieldsIf_move _ rfl rfl rfl) hHeld ?_
          simp only [ly, Act.put]
          refine tkn 6 (.pointer (some ⟨x, 0, none⟩)) rfl (by kernel_rfl) (fun _ _ _ h => h) (.inl ⟨by kernel_rfl, fun w _ => by go_simp⟩) hHeld ?_
          simp only [ly, Act.put]
          refine tkn 7 (.pointer (some ⟨x, 1, none⟩)) rfl (by kernel_rfl) (fun _ _ _ h => h) (.inl ⟨by kernel_rfl, fun w _ => by go_simp⟩) hHeld ?_
          simp only [ly, Act.put]
          refine tkn 8 (.slice (some ⟨g2, 0, none⟩) n c2) rfl (by kernel_rfl) (fun _ _ _ h => h) (.inl ⟨by kernel_rfl, fun V hS => by have c1 := hS.1; go_simp⟩) hHeld ?_
          simp only [ly, Act.put]
          refine tkn 9 (.int .i64 (q : Int)) rfl (by kernel_rfl) (fun _ _ _ h => h) (yieldsIf_move _ rfl rfl rfl) hHeld ?_
          simp only [ly, Act.put]
          refine tkn 10 (.pointer (some ⟨g2, q, none⟩)) rfl (by kernel_rfl) (fun _ _ _ h => h) (.inl ⟨by kernel_rfl, fun w _ => by go_simp⟩) hHeld ?_
          simp only [ly, Act.put]
          refine tkn 11 (.string o) rfl (by kernel_rfl) (fun _ _ _ h => h) (.inl ⟨by kernel_rfl, fun V hS => by have cs := hS.2.2; go_simp⟩) hHeld ?_
          simp only [ly, Act.put]
          refine tkn 12 (.pointer (some ⟨g1, q, none⟩)) rfl (by kernel_rfl) (fun _ _ _ h => h) (.inl ⟨by kernel_rfl, fun w _ => by go_simp⟩) hHeld ?_
          simp only [ly, Act.put]
          refine wpAnyH_ready (rs := [13]) (by kernel_rfl) (by simp) (AllReadyH.cons rfl (fun K hK => ?_) AllReadyH.nil)
          have hK' := hid hK
          clear hK
          rw [if_pos (by kernel_rfl)]
          simp only [ly1, ly2, ly3]
          obtain ⟨u, cu⟩ : ∃ u, W11.cell? ⟨g1, q, none⟩ = some u := ⟨_, hA11.out.c1_ (List.getElem?_eq_getElem (by rw [hA11.out.nl]; exact hlt''.out))⟩
          have fu := hA11.out.now.frozenAt q
          go_simp
          obtain ⟨W12, hW⟩ : ∃ V, W11.setCell ⟨g1, q, none⟩ (.string o) = V := ⟨_, rfl⟩
          rw [hW]
          have hA12 := hid (show RDiskAt W12 B x g1 c1 g2 c2 g3 n (mix C D.xs (q + 1)) (thnD n D) (flD n D) from by rw [← hW, ← hmx.out]; exact hA11.out.set1 q o)
          have hT12 := hid (show TurnS (RS g1 g2 g3) W0 W12 from by rw [← hW]; exact hT11.out.cell _ (.inl rfl) _)
          clear hW hA11 hT11
          refine hK'.out _ _ (by exact ⟨hA12.out.own.cK 1 _ rfl, hA12.out.own.cK 0 _ rfl, hA12.out.c2_ hth.out⟩) (fun hHeld => ?_)
          clear hK' K
          refine wpAnyH_done (by kernel_rfl) ?_ _
          go_wp2_with fail
          go_roundw
          case rel => exact ⟨q + 1, by have := hlt''.out; omega, by go_num, by rw [hs.out]; go_num, hA12.out, hT12.out⟩
          case measure => have := hlt''.out; simp [intOf]; omega
        · rw [kb, if_neg (by decide)] at hca
          have hmx := hid (mix_set (a := C) (b := D.xs) (i := q) (x := o) (by rw [hCat.out q hlt, hca]) hCx.out)
          clear kb hd hy hlt ho hca
          go_wp2_with fail
          clear c0 c2 cc
          have hb : Below W10.heap.size W10 W10.drew := (Below.refl _ _).drew
          have hA11 := hid (hA10.out.on hb)
          have hT11 := hid (hT10.out.up hb)
          clear hb hA10 hT10
          refine wp_region_held_drew (S := fun V => V.cell? ⟨x, 1, none⟩ = some (.slice (some ⟨g2, 0, none⟩) n c2) ∧ V.cell? ⟨x, 0, none⟩ = some (.slice (some ⟨g1, 0, none⟩) n c1) ∧ V.cell? ⟨g2, q, none⟩ = some (.string o)) (by kernel_rfl) (by exact ⟨hA11.out.own.cK 1 _ rfl, hA11.out.own.cK 0 _ rfl, hA11.out.c2_ hth.out⟩) (fun hHeld => ?_)
          generalize W10.drew = W11 at *
          refine tkn 0 (.pointer (some ⟨x, 0, none⟩)) rfl (by kernel_rfl) (fun _ _ _ h => h) (yieldsIf_move _ rfl rfl rfl) hHeld ?_
          simp only [ly, Act.put]
          refine tkn 1 (.pointer (some ⟨x, 0, none⟩)) rfl (by kernel_rfl) (fun _ _ _ h => h) (.inl ⟨by kernel_rfl, fun w _ => by go_simp⟩) hHeld ?_
          simp only [ly, Act.put]
          refine tkn 2 (.pointer (some ⟨x, 0, none⟩)) rfl (by kernel_rfl) (fun _ _ _ h => h) (.inl ⟨by kernel_rfl, fun w _ => by go_simp⟩) hHeld ?_
          simp only [ly, Act.put]
          refine tkn 3 (.slice (some ⟨g1, 0, none⟩) n c1) rfl (by kernel_rfl) (fun _ _ _ h => h) (.inl ⟨by kernel_rfl, fun V hS => by have c0 := hS.2.1; go_simp⟩) hHeld ?_
          simp only [ly, Act.put]
          refine tkn 4 (.int .i64 (q : Int)) rfl (by kernel_rfl) (fun _ _ _ h => h) (yieldsIf_move _ rfl rfl rfl) hHeld ?_
          simp only [ly, Act.put]
          refine tkn 5 (.pointer (some ⟨x, 0, none⟩)) rfl (by kernel_rfl) (fun _ _ _ h => h) (yieldsIf_move _ rfl rfl rfl) hHeld ?_
          simp only [ly, Act.put]
          refine tkn 6 (.pointer (some ⟨x, 0, none⟩)) rfl (by kernel_rfl) (fun _ _ _ h => h) (.inl ⟨by kernel_rfl, fun w _ => by go_simp⟩) hHeld ?_
          simp only [ly, Act.put]
          refine tkn 7 (.pointer (some ⟨x, 1, none⟩)) rfl (by kernel_rfl) (fun _ _ _ h => h) (.inl ⟨by kernel_rfl, fun w _ => by go_simp⟩) hHeld ?_
          simp only [ly, Act.put]
          refine tkn 8 (.slice (some ⟨g2, 0, none⟩) n c2) rfl (by kernel_rfl) (fun _ _ _ h => h) (.inl ⟨by kernel_rfl, fun V hS => by have c1 := hS.1; go_simp⟩) hHeld ?_
          simp only [ly, Act.put]
          refine tkn 9 (.int .i64 (q : Int)) rfl (by kernel_rfl) (fun _ _ _ h => h) (yieldsIf_move _ rfl rfl rfl) hHeld ?_
          simp only [ly, Act.put]
          refine tkn 10 (.pointer (some ⟨g2, q, none⟩)) rfl (by kernel_rfl) (fun _ _ _ h => h) (.inl ⟨by kernel_rfl, fun w _ => by go_simp⟩) hHeld ?_
          simp only [ly, Act.put]
          refine tkn 11 (.string o) rfl (by kernel_rfl) (fun _ _ _ h => h) (.inl ⟨by kernel_rfl, fun V hS => by have cs := hS.2.2; go_simp⟩) hHeld ?_
          simp only [ly, Act.put]
          refine tkn 12 (.pointer (some ⟨g1, q, none⟩)) rfl (by kernel_rfl) (fun _ _ _ h => h) (.inl ⟨by kernel_rfl, fun w _ => by go_simp⟩) hHeld ?_
          simp only [ly, Act.put]
          refine wpAnyH_ready (rs := [13]) (by kernel_rfl) (by simp) (AllReadyH.cons rfl (fun K hK => ?_) AllReadyH.nil)
          have hK' := hid hK
          clear hK
          rw [if_pos (by kernel_rfl)]
          simp only [ly1, ly2, ly3]
          obtain ⟨u, cu⟩ : ∃ u, W11.cell? ⟨g1, q, none⟩ = some u := ⟨_, hA11.out.c1_ (List.getElem?_eq_getElem (by rw [hA11.out.nl]; exact hlt''.out))⟩
          have fu := hA11.out.now.frozenAt q
          go_simp
          obtain ⟨W12, hW⟩ : ∃ V, W11.setCell ⟨g1, q, none⟩ (.string o) = V := ⟨_, rfl⟩
          rw [hW]
          have hA12 := hid (show RDiskAt W12 B x g1 c1 g2 c2 g3 n (mix C D.xs (q + 1)) (thnD n D) (flD n D) from by rw [← hW, ← hmx.out]; exact hA11.out.set1 q o)
          have hT12 := hid (show TurnS (RS g1 g2 g3) W0 W12 from by rw [← hW]; exact hT11.out.cell _ (.inl rfl) _)
          clear hW hA11 hT11
          refine hK'.out _ _ (by exact ⟨hA12.out.own.cK 1 _ rfl, hA12.out.own.cK 0 _ rfl, hA12.out.c2_ hth.out⟩) (fun hHeld => ?_)
          clear hK' K
          refine wpAnyH_done (by kernel_rfl) ?_ _
          go_wp2_with fail
          go_roundw
          case rel => exact ⟨q + 1, by have := hlt''.out; omega, by go_num, by rw [hs.out]; go_num, hA12.out, hT12.out⟩
          case measure => have := hlt''.out; simp [intOf]; omega
    · obtain rfl : q = n := by omega
      have e1 := mix_end hCx.out
      rw [hfin.out.len] at e1
      rw [e1] at hA10
      clear e1 hs hy c2
      go_wp2_with fail
      refine (rdSync_any _ hA10.out).mono ?_
      rintro e W20 ⟨rfl, hA, hT⟩
      have hA20 := hid hA
      have hT20 := hid (hT10.out.trans hT)
      clear hA hT
      try (rename_i hKK; refine hKK _ _ ?_; clear hKK)
      go_wp2_with fail
      go_end0
      refine ⟨rfl, ?_, hT20.out⟩
      have hf := hfin.out.crash keep
      show RDiskAt W20 B x g1 c1 g2 c2 g3 q (D.crash keep).xs (thnD q (D.crash keep)) (flD q (D.crash keep))
      rw [thnD_clean hf rfl, flD_clean rfl, hC'.out]
      exact hA20.out


end Go.Proofs.Ytbclmkpigdeilaa
