/- Layer 7, the reference's side: Dirty, Sync, Crash, NewDisk. -/
import Derived.Test.YtbclmkpigdeilaaDkR
namespace Go.Proofs.Ytbclmkpigdeilaa
open Go.RowKit
open Go.Lib (strCells strCells_length strCells_oneCell)

/-- What the reference's lists are for a disk. -/
def thnD (n : Nat) (D : Dk) : List ByteArray := (List.range n).map fun i => (oldGet D.old i).getD (D.xs.getD i ⟨#[]⟩)
def flD (n : Nat) (D : Dk) : List Bool := (List.range n).map (dirt D.old)
theorem flD_at {n : Nat} {D : Dk} {k : Nat} (hk : k < n) : (flD n D).getD k false = dirt D.old k := by
  unfold flD
  rw [List.getD_eq_getElem?_getD, List.getElem?_map, List.getElem?_range hk]
  rfl
theorem thnD_at {n : Nat} {D : Dk} {k : Nat} (hk : k < n) : (thnD n D)[k]? = some ((oldGet D.old k).getD (D.xs.getD k ⟨#[]⟩)) := by
  unfold thnD
  rw [List.getElem?_map, List.getElem?_range hk]
  rfl
theorem xs_at {n : Nat} {D : Dk} (h : D.fine n) {k : Nat} (hk : k < n) : D.xs[k]? = some (D.xs.getD k ⟨#[]⟩) := by
  rw [List.getD_eq_getElem?_getD, List.getElem?_eq_getElem (by rw [h.len]; exact hk)]
  rfl
theorem map_range_ext {α : Type} {n : Nat} {f g : Nat → α} (h : ∀ i, i < n → f i = g i) : (List.range n).map f = (List.range n).map g := List.map_congr_left fun i hi => h i (List.mem_range.1 hi)
theorem thnD_clean {n : Nat} {D : Dk} (h : D.fine n) (ho : D.old = []) : thnD n D = D.xs := by
  refine List.ext_getElem? fun i => ?_
  by_cases hi : i < n
  · rw [thnD_at hi, xs_at h hi, ho]
    rfl
  · rw [List.getElem?_eq_none (by unfold thnD; rw [List.length_map, List.length_range]; omega), List.getElem?_eq_none (by rw [h.len]; omega)]
theorem flD_clean {n : Nat} {D : Dk} (ho : D.old = []) : flD n D = List.replicate n false := by
  unfold flD
  rw [ho]
  refine List.ext_getElem? fun i => ?_
  by_cases hi : i < n
  · rw [List.getElem?_map, List.getElem?_range hi, List.getElem?_replicate, if_pos hi]
    rfl
  · rw [List.getElem?_eq_none (by rw [List.length_map, List.length_range]; omega), List.getElem?_eq_none (by rw [List.length_replicate]; omega)]
theorem thnD_write {n : Nat} {D : Dk} {k : Nat} (s : ByteArray) : thnD n (D.write k s) = thnD n D := by
  refine map_range_ext fun i hi => ?_
  unfold Dk.write
  simp only
  by_cases e : i = k
  · subst e
    cases hd : dirt D.old i with
    | true =>
      obtain ⟨o, ho⟩ := dirt_mem hd
      simp [ho]
    | false =>
      have ho := dirt_no.1 hd
      simp only [Bool.false_eq_true, if_false]
      rw [oldGet_snoc _ ho, if_pos rfl, ho]
      rfl
  · have hx : (D.xs.set k s).getD i ⟨#[]⟩ = D.xs.getD i ⟨#[]⟩ := by
      rw [List.getD_eq_getElem?_getD, List.getD_eq_getElem?_getD, List.getElem?_set_ne (fun h => e h.symm)]
    rw [hx]
    cases hd : dirt D.old k with
    | true => rfl
    | false =>
      simp only [Bool.false_eq_true, if_false]
      rw [oldGet_snoc _ (dirt_no.1 hd), if_neg e]
theorem flD_write {n : Nat} {D : Dk} {k : Nat} (s : ByteArray) (hk : k < n) : flD n (D.write k s) = (flD n D).set k true := by
  have hl : (flD n D).length = n := by unfold flD; rw [List.length_map, List.length_range]
  refine List.ext_getElem? fun i => ?_
  by_cases hi : i < n
  · rw [List.getElem?_set, hl]
    have h1 : (flD n (D.write k s))[i]? = some (dirt (D.write k s).old i) := by unfold flD; rw [List.getElem?_map, List.getElem?_range hi]; rfl
    have h2 : (flD n D)[i]? = some (dirt D.old i) := by unfold flD; rw [List.getElem?_map, List.getElem?_range hi]; rfl
    rw [h1, h2]
    unfold Dk.write
    simp only
    by_cases e : k = i
    · subst e
      rw [if_pos rfl, if_pos hk]
      cases hd : dirt D.old k with
      | true => simp [hd]
      | false =>
        simp only [Bool.false_eq_true, if_false]
        rw [dirt_snoc _ (dirt_no.1 hd)]
        simp
    · rw [if_neg e]
      cases hd : dirt D.old k with
      | true => rfl
      | false =>
        simp only [Bool.false_eq_true, if_false]
        rw [dirt_snoc _ (dirt_no.1 hd), decide_eq_false (fun h => e h.symm), Bool.false_or]
  · rw [List.getElem?_eq_none (by unfold flD; rw [List.length_map, List.length_range]; omega), List.getElem?_eq_none (by rw [List.length_set, hl]; omega)]
abbrev RDisk (w : World) (B x g1 c1 g2 c2 g3 n : Nat) (D : Dk) : Prop := RDiskAt w B x g1 c1 g2 c2 g3 n D.xs (thnD n D) (flD n D)

set_option maxRecDepth 100000 in
set_option maxHeartbeats 400000 in
theorem rdDirty_any {B x g1 c1 g2 c2 g3 n : Nat} {D : Dk} (hD : D.fine n) (w : World) (h : RDisk w B x g1 c1 g2 c2 g3 n D) : Calls Try.prog 41 #[.pointer (some ⟨x, 0, none⟩)] w fun e w' => e = .returned (.int .i64 (D.old.length : Int)) ∧ w = w' := by
  have c2 := h.own.cK 2 _ rfl
  have hc := hid (fun k (hk : k < n) => show w.cell? ⟨g3, k, none⟩ = some (.bool (dirt D.old k)) from by have h2 := h.c3_ hk; rw [flD_at hk] at h2; exact h2)
  have hm := h.most
  have hl := hid (rank_len hD.ok)
  clear h
  go_enter Try.func41, Try.ntmps41
  go_wp2
  go_loop [3, 4] (fun k i => ∃ q : Nat, q ≤ n ∧ i = .int .i64 (q : Int) ∧ k = .int .i64 ((rank D.old q : Nat) : Int)) (fun _ i => n - (intOf i).toNat)
  case atStart => exact ⟨0, Nat.zero_le _, rfl, rfl⟩
  case round =>
    obtain ⟨q, hq, rfl, rfl⟩ := hrel
    have hr := rank_le D.old q
    have hs := rank_succ D.old q
    obtain ⟨y, hy⟩ : ∃ y, rank D.old q = y := ⟨_, rfl⟩
    rw [hy] at hr hs ⊢
    by_cases hlt : q < n
    · have hlt' : (q : Int) < (n : Int) := by omega
      have s3 : (0 : Int) ≤ (q : Int) := by omega
      have w1 := IntWalk.i64_in ((q : Int) + 1) (by omega)
      have w2 := IntWalk.i64_in ((y : Int) + 1) (by omega)
      have cc := hc.out q hlt
      cases hd : dirt D.old q with
      | true =>
        rw [hd] at cc hs
        have hs := hid hs
        clear hd hy
        go_wp2
        go_round
        case rel => exact ⟨q + 1, by omega, by go_num, by rw [hs.out]; go_num⟩
        case measure => simp [intOf]; omega
      | false =>
        rw [hd] at cc hs
        have hs := hid hs
        clear hd hy
        go_wp2
        go_round
        case rel => exact ⟨q + 1, by omega, by go_num, by rw [hs.out]; rfl⟩
        case measure => simp [intOf]; omega
    · obtain rfl : q = n := by omega
      have e := hid (show y = D.old.length from by rw [← hy]; exact hl.out)
      clear hs hy hc
      go_wp2
      go_ret
      exact ⟨congrArg (fun k : Nat => Ending.returned (.int .i64 (k : Int))) e.out, rfl⟩
set_option maxRecDepth 100000 in
set_option maxHeartbeats 1000000 in
theorem rdSync_any {B x g1 c1 g2 c2 g3 n : Nat} {now thn : List ByteArray} {fl : List Bool} (w : World) (h : RDiskAt w B x g1 c1 g2 c2 g3 n now thn fl) : Calls Try.prog 37 #[.pointer (some ⟨x, 0, none⟩)] w fun e w' => e = .returned (.tuple #[]) ∧ RDiskAt w' B x g1 c1 g2 c2 g3 n now now (List.replicate n false) ∧ TurnS (RS g1 g2 g3) w w' := by
  have hm := h.most
  have hnt := hid (show now.length = thn.length from by rw [h.nl, h.tl])
  have hff := hid (show (List.replicate n false).length = fl.length from by rw [List.length_replicate, h.fll])
  have hnl := hid h.nl
  have hn12 : ¬ g1 = g2 := h.n12
  have hn21 : ¬ g2 = g1 := fun e => hn12 e.symm
  have hx1 := hid h.x1
  have hx2 := hid h.x2
  have hx3 := hid h.x3
  have hA0 := hid h
  clear h
  obtain ⟨W0, hW0⟩ : ∃ V, V = w := ⟨_, rfl⟩
  rw [← hW0] at hA0 ⊢
  clear hW0
  have hT0 := hid (TurnS.refl (RS g1 g2 g3) W0)
  go_enter Try.func37, Try.ntmps37
  go_wp2_with fail
  go_loopw [2] (fun ix wr => ∃ q : Nat, q ≤ n ∧ ix = .int .i64 (q : Int) ∧ RDiskAt wr B x g1 c1 g2 c2 g3 n now (mix now thn q) (mix (List.replicate n false) fl q) ∧ TurnS (RS g1 g2 g3) W0 wr) (fun ix _ => n - (intOf ix).toNat)
  case atStart => exact ⟨0, Nat.zero_le _, rfl, hA0.out, hT0.out⟩
  case round =>
    obtain ⟨q, hq, rfl, hAr, hTr⟩ := hrel
    obtain ⟨W10, rfl⟩ : ∃ V, V = wr := ⟨_, rfl⟩
    have hA10 := hid hAr
    have hT10 := hid hTr
    clear hAr hTr hA0 hT0
    have c0 := hA10.out.own.cK 0 _ rfl
    by_cases hlt : q < n
    · have hlt' : (q : Int) < (n : Int) := by omega
      have s3 : (0 : Int) ≤ (q : Int) := by omega
      have w1 := IntWalk.i64_in ((q : Int) + 1) (by omega)
      obtain ⟨s, hs⟩ : ∃ s, now[q]? = some s := ⟨_, List.getElem?_eq_getElem (by rw [hnl.out]; exact hlt)⟩
      have ms := hid (mix_set hs hnt.out)
      have mf := hid (mix_set (a := List.replicate n false) (b := fl) (i := q) (x := false) (by rw [List.getElem?_replicate, if_pos hlt]) hff.out)
      have hs' := hid hs
      have hlt'' := hid hlt
      clear hs hlt
      go_wp2_with fail
      clear c0
      have hb : Below W10.heap.size W10 W10.drew := (Below.refl _ _).drew
      have hA11 := hid (hA10.out.on hb)
      have hT11 := hid (hT10.out.up hb)
      clear hb hA10 hT10
      refine wp_region_held_drew (S := fun V => V.cell? ⟨x, 1, none⟩ = some (.slice (some ⟨g2, 0, none⟩) n c2) ∧ V.cell? ⟨x, 0, none⟩ = some (.slice (some ⟨g1, 0, none⟩) n c1) ∧ V.cell? ⟨g1, q, none⟩ = some (.string s)) (by kernel_rfl) (by exact ⟨hA11.out.own.cK 1 _ rfl, hA11.out.own.cK 0 _ rfl, hA11.out.c1_ hs'.out⟩) (fun hHeld => ?_)
      generalize W10.drew = W11 at *
      refine tkn 0 (.pointer (some ⟨x, 0, none⟩)) rfl (by kernel_rfl) (fun _ _ _ h => h) (yieldsIf_move _ rfl rfl rfl) hHeld ?_
      simp only [ly, Act.put]
      refine tkn 1 (.pointer (some ⟨x, 0, none⟩)) rfl (by kernel_rfl) (fun _ _ _ h => h) (.inl ⟨by kernel_rfl, fun w _ => by go_simp⟩) hHeld ?_
      simp only [ly, Act.put]
      refine tkn 2 (.pointer (some ⟨x, 1, none⟩)) rfl (by kernel_rfl) (fun _ _ _ h => h) (.inl ⟨by kernel_rfl, fun w _ => by go_simp⟩) hHeld ?_
      simp only [ly, Act.put]
      refine tkn 3 (.slice (some ⟨g2, 0, none⟩) n c2) rfl (by kernel_rfl) (fun _ _ _ h => h) (.inl ⟨by kernel_rfl, fun V hS => by have c1 := hS.1; go_simp⟩) hHeld ?_
      simp only [ly, Act.put]
      refine tkn 4 (.int .i64 (q : Int)) rfl (by kernel_rfl) (fun _ _ _ h => h) (yieldsIf_move _ rfl rfl rfl) hHeld ?_
      simp only [ly, Act.put]
      refine tkn 5 (.pointer (some ⟨x, 0, none⟩)) rfl (by kernel_rfl) (fun _ _ _ h => h) (yieldsIf_move _ rfl rfl rfl) hHeld ?_
      simp only [ly, Act.put]
      refine tkn 6 (.pointer (some ⟨x, 0, none⟩)) rfl (by kernel_rfl) (fun _ _ _ h => h) (.inl ⟨by kernel_rfl, fun w _ => by go_simp⟩) hHeld ?_
      simp only [ly, Act.put]
      refine tkn 7 (.pointer (some ⟨x, 0, none⟩)) rfl (by kernel_rfl) (fun _ _ _ h => h) (.inl ⟨by kernel_rfl, fun w _ => by go_simp⟩) hHeld ?_
      simp only [ly, Act.put]
      refine tkn 8 (.slice (some ⟨g1, 0, none⟩) n c1) rfl (by kernel_rfl) (fun _ _ _ h => h) (.inl ⟨by kernel_rfl, fun V hS => by have c0 := hS.2.1; go_simp⟩) hHeld ?_
      simp only [ly, Act.put]
      refine tkn 9 (.int .i64 (q : Int)) rfl (by kernel_rfl) (fun _ _ _ h => h) (yieldsIf_move _ rfl rfl rfl) hHeld ?_
      simp only [ly, Act.put]
      refine tkn 10 (.pointer (some ⟨g1, q, none⟩)) rfl (by kernel_rfl) (fun _ _ _ h => h) (.inl ⟨by kernel_rfl, fun w _ => by go_simp⟩) hHeld ?_
      simp only [ly, Act.put]
      refine tkn 11 (.string s) rfl (by kernel_rfl) (fun _ _ _ h => h) (.inl ⟨by kernel_rfl, fun V hS => by have cs := hS.2.2; go_simp⟩) hHeld ?_
      simp only [ly, Act.put]
      refine tkn 12 (.pointer (some ⟨g2, q, none⟩)) rfl (by kernel_rfl) (fun _ _ _ h => h) (.inl ⟨by kernel_rfl, fun w _ => by go_simp⟩) hHeld ?_
      simp only [ly, Act.put]
      refine wpAnyH_ready (rs := [13]) (by kernel_rfl) (by simp) (AllReadyH.cons rfl (fun K hK => ?_) AllReadyH.nil)
      have hK' := hid hK
      clear hK
      rw [if_pos (by kernel_rfl)]
      simp only [ly1, ly2, ly3]
      obtain ⟨u, cu⟩ : ∃ u, W11.cell? ⟨g2, q, none⟩ = some u := ⟨_, hA11.out.c2_ (List.getElem?_eq_getElem (by rw [hA11.out.tl]; exact hlt''.out))⟩
      have fu := hA11.out.thn.frozenAt q
      go_simp
      obtain ⟨W12, hW⟩ : ∃ V, W11.setCell ⟨g2, q, none⟩ (.string s) = V := ⟨_, rfl⟩
      rw [hW]
      have hA12 := hid (show RDiskAt W12 B x g1 c1 g2 c2 g3 n now (mix now thn (q + 1)) (mix (List.replicate n false) fl q) from by rw [← hW, ← ms.out]; exact hA11.out.set2 q s)
      have hT12 := hid (show TurnS (RS g1 g2 g3) W0 W12 from by rw [← hW]; exact hT11.out.cell _ (.inr (.inl rfl)) _)
      clear hW hA11 hT11
      refine hK'.out _ _ (by exact ⟨hA12.out.own.cK 1 _ rfl, hA12.out.own.cK 0 _ rfl, hA12.out.c1_ hs'.out⟩) (fun hHeld => ?_)
      clear hK' K
      refine wpAnyH_done (by kernel_rfl) ?_ _
      have c2 := hA12.out.own.cK 2 _ rfl
      have cb := hA12.out.c3_ hlt''.out
      have fb := hA12.out.fl_.frozen q
      have hA := hid (hA12.out.set3 q false)
      rw [mf.out] at hA
      have hT := hid (hT12.out.cell ⟨g3, q, none⟩ (.inr (.inr rfl)) (.bool false))
      go_wp2_with fail
      go_roundw
      case rel => exact ⟨q + 1, by have := hlt''.out; omega, by go_num, hA.out, hT.out⟩
      case measure => have := hlt''.out; simp [intOf]; omega
    · obtain rfl : q = n := by omega
      go_wp2_with fail
      go_end0
      have hA := hA10.out
      have e1 := mix_end hnt.out
      have e2 := mix_end hff.out
      rw [← hnt.out, hnl.out] at e1
      rw [← hff.out, List.length_replicate] at e2
      rw [e1, e2] at hA
      exact ⟨rfl, hA, hT10.out⟩


end Go.Proofs.Ytbclmkpigdeilaa
