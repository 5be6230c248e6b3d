/- Layer 7: DiskLast: a sector holds what was written last. -/
import Derived.Test.YtbclmkpigdeilaaDkW
import Derived.Test.YtbclmkpigdeilaaArith
namespace Go.Proofs.Ytbclmkpigdeilaa
open Go.RowKit
open Go.Lib (strCells strCells_length strCells_oneCell)

theorem new_at {W W' : World} {cs : Array Value} {t : TypeId} (h : W.alloc (.cells cs t) = W') : Holds W' W.heap.size t cs.toList ∧ Below W.heap.size W W' := by
  subst h
  exact ⟨Holds.new W t cs, (Below.refl _ _).alloc (Nat.le_refl _) _⟩
theorem DiskAt.cell {w : World} {d r b n : Nat} {D : Dk} (h : DiskAt w d r b n D) (p : Addr) (h1 : d ≠ p.block ∧ r ≠ p.block ∧ b ≠ p.block) (v : Value) : DiskAt (w.setCell p v) d r b n D :=
  ⟨h.own.far p h1.1 v, h.row.far p h1.2.1 v, h.map.far p h1.2.2 v, h.fine, h.most, h.dr⟩
/-- The sectors hold these bytes, each 64 times. -/
def Says (D : Dk) (is : List Int) : Prop := D.xs = is.map secT
theorem Says.new (n : Nat) : Says (Dk.new n) (List.replicate n 0) := by
  unfold Says Dk.new
  rw [List.map_replicate, secT_zero]
theorem Says.write {D : Dk} {is : List Int} (h : Says D is) (k : Nat) (v : Int) : Says (D.write k (secT v)) (is.set k v) := by
  unfold Says at h ⊢
  unfold Dk.write
  rw [h, List.map_set]
theorem Says.sync {D : Dk} {is : List Int} (h : Says D is) : Says D.sync is := h
theorem Says.get {D : Dk} {is : List Int} (h : Says D is) {k : Nat} {v : Int} (hv : is[k]? = some v) : D.xs.getD k ⟨#[]⟩ = secT v := by
  unfold Says at h
  rw [h, List.getD_eq_getElem?_getD, List.getElem?_map, hv]
  rfl
theorem Says.crash {D : Dk} {is : List Int} (h : Says D is) (hD : D.old = []) (keep : Int) : Says (D.crash keep) is := by
  unfold Says at h ⊢
  rw [← h, ← D.mid_end keep, hD, rank_nil]
  exact D.mid_zero keep
theorem i64s_at {is : List Int} {k : Nat} {v : Int} (h : is[k]? = some v) : (i64s is)[k]? = some (.int .i64 v) := by
  unfold i64s
  rw [List.getElem?_map, h]
  rfl
theorem i64s_set (is : List Int) (k : Nat) (v : Int) : (i64s is).set k (.int .i64 v) = i64s (is.set k v) := by
  unfold i64s
  rw [List.map_set]

set_option maxRecDepth 100000 in
set_option maxHeartbeats 2000000 in
theorem DiskLast_law {w : World} (A0 : Option Addr) (n0 c0 : Nat) (zs : List Int) (hz : IntsIn w A0 n0 c0 zs) (keep : Int) :
    Calls Try.prog 9 #[.slice A0 n0 c0, .int .i64 keep] w fun e w' => e = .returned (.bool true) ∧ Below w.heap.size w w' := by
  obtain ⟨hI0, hnc, hc8, -, -⟩ := hz
  have hI := hid hI0
  have hS := hid (fun c V => sector_any c V)
  have hAw := hid (awake7_any w)
  have hN8 := hid (fun V => dkNew_yes 8 (by decide) (by decide) V)
  clear hI0
  go_enter Try.func9, Try.ntmps9
  go_wp2_with fail
  refine hAw.out.mono ?_
  rintro e W1 ⟨rfl, hb⟩
  have hB1 := hid hb
  clear hb hAw
  try (rename_i hKK; refine hKK _ _ ?_; clear hKK)
  go_wp2_with fail
  refine (hN8.out _).mono ?_
  rintro e W2 ⟨rfl, hA, hb⟩
  obtain ⟨r, hr0⟩ : ∃ r, W1.heap.size = r := ⟨_, rfl⟩
  rw [hr0] at hA hb ⊢
  have hr := hid (show w.heap.size ≤ r from by rw [← hr0]; exact hB1.out.size)
  have hb' := hid (show w.heap.size ≤ r + 1 from by rw [← hr0]; have := hB1.out.size; omega)
  have hrg := hid (show r + 2 < W2.heap.size from hA.lt.1)
  rw [← hr0] at hb
  have hA2 := hid hA
  have hB2 := hid (bup hb hB1.out)
  clear hA hb hr0 hB1
  try (rename_i hKK; refine hKK _ _ ?_; clear hKK)
  go_wp2_with (first
    | ((with_reducible refine at_slot (some 7) ?_); refine wpList_run rfl (.pointer (some ⟨W2.heap.size, 0, none⟩)) (W2.alloc (.cells (i64s (List.replicate 8 0)).toArray 78)) (by kernel_rfl) ?_; generalize hW : World.alloc _ _ = W3; obtain ⟨hN, hb⟩ := new_at hW; clear hW; have hB3 := hid (bup hb hB2.out); have hA3 := hid (hA2.out.on hb); have hI3 := hid hN; clear hb hB2 hA2 hN)
    | fail)
  obtain ⟨gi, hgi⟩ : ∃ g, W2.heap.size = g := ⟨_, rfl⟩
  rw [hgi] at hI3 ⊢
  have hgn := hid (show (r + 2 ≠ gi ∧ r ≠ gi ∧ r + 1 ≠ gi) ∧ w.heap.size ≤ gi from by rw [← hgi]; have h1 := hrg.out; have h2 := hr.out; omega)
  clear hgi hrg
  go_loopw [8] (fun ix wr => ∃ (i : Nat) (is : List Int) (D : Dk), i ≤ n0 ∧ i ≤ 60 ∧ ix = .int .i64 (i : Int) ∧ is.length = 8 ∧ Says D is ∧ Holds wr gi 78 (i64s is) ∧ DiskAt wr (r + 2) r (r + 1) 8 D ∧ Below w.heap.size w wr) (fun ix _ => n0 - (intOf ix).toNat)
  case atStart => exact ⟨0, _, _, Nat.zero_le _, by omega, rfl, rfl, Says.new 8, hI3.out, hA3.out, hB3.out⟩
  case round =>
    obtain ⟨i, is, D, hi1, hi60, rfl, his, hsy, hIr, hAr, hBr⟩ := hrel
    obtain ⟨W10, rfl⟩ : ∃ V, V = wr := ⟨_, rfl⟩
    have hI10 := hid hIr
    have hA10 := hid hAr
    have hB10 := hid hBr
    have his' := hid his
    have hsy' := hid hsy
    clear hIr hAr hBr his hsy hI3 hA3 hB3
    by_cases hlt : i < n0 ∧ i < 60
    · obtain ⟨hl1, hl2⟩ := hlt
      have hl1' : (i : Int) < (n0 : Int) := by omega
      have hl2' : (i : Int) < 60 := by omega
      have s3 : (0 : Int) ≤ (i : Int) := by omega
      have hiw := IntWalk.i64_in ((i : Int) + 1) (by omega)
      obtain ⟨p, rfl, hpB, zc⟩ := (hI.out.below hB10.out).get hl1
      obtain ⟨z, hz⟩ : ∃ z, zs.getD i 0 = z := ⟨_, rfl⟩
      rw [hz] at zc
      clear hz
      obtain ⟨a, ha, hand1, -⟩ := and_mask z 3 (by decide) 7 rfl
      obtain ⟨v, hv0, hand2, -⟩ := and_mask (z / 8) 8 (by decide) 255 rfl
      have ha8 : a < 8 := ha
      have ha8' : (a : Int) < 8 := by omega
      have s4 : (0 : Int) ≤ (a : Int) := by omega
      clear ha hv0
      obtain ⟨u, hu⟩ : ∃ u, is[a]? = some u := ⟨_, List.getElem?_eq_getElem (by rw [his'.out]; exact ha8)⟩
      have cI := hI10.out.cK a _ (i64s_at hu)
      have fI := hI10.out.frozen a
      clear hu
      go_wp2_with fail
      obtain ⟨W11, hW11⟩ : ∃ V, W10.setCell ⟨gi, a, none⟩ (.int .i64 (v : Int)) = V := ⟨_, rfl⟩
      have hI11 := hid (show Holds W11 gi 78 (i64s (is.set a (v : Int))) from by rw [← hW11, ← i64s_set]; exact hI10.out.set a _)
      have hA11 := hid (show DiskAt W11 (r + 2) r (r + 1) 8 D from by rw [← hW11]; exact hA10.out.cell _ hgn.out.1 _)
      have hB11 := hid (show Below w.heap.size w W11 from by rw [← hW11]; exact hB10.out.setCell hgn.out.2 _)
      have zw := hid (fun V (hb : Below w.heap.size w V) => zc)
      rw [hW11]
      have hva := hid (show (is.set a (v : Int))[a]? = some (v : Int) from by rw [List.getElem?_set_self (by rw [his'.out]; exact ha8)])
      have hsw := hid (hsy'.out.write a (v : Int))
      clear hW11 cI fI hI10 hA10 hB10 zc zw
      refine (hS.out (v : Int) _).mono ?_
      rintro e W12 ⟨rfl, hb⟩
      have hB12 := hid (bup hb hB11.out)
      have hA12 := hid (hA11.out.on hb)
      have hI12 := hid (hI11.out.below hb hI11.out.lt)
      clear hb hB11 hA11 hI11
      try (rename_i hKK; refine hKK _ _ ?_; clear hKK)
      go_wp2_with fail
      refine (dkWrite_yes a (secT (v : Int)) (secT_size _) _ _ _ 8 D ha8 _ hA12.out).mono ?_
      rintro e W13 ⟨rfl, hA, hT⟩
      have hA13 := hid hA
      have hB13 := hid (dk_below hB12.out hT hr.out hb'.out)
      have hI13 := hid (hT.holds hI12.out (Ne.symm hgn.out.1.2.1) (fun e => hgn.out.1.2.2 (Option.some.inj e).symm))
      clear hA hT hA12 hB12 hI12
      try (rename_i hKK; refine hKK _ _ ?_; clear hKK)
      go_wp2_with fail
      have hRd := dkRead_yes a _ _ _ 8 _ ha8 _ hA13.out
      rw [hsw.out.get hva.out] at hRd
      refine hRd.mono ?_
      rintro e w' ⟨rfl, rfl⟩
      clear hRd
      try (rename_i hKK; refine hKK _ _ ?_; clear hKK)
      have cI := hI13.out.cK a _ (i64s_at hva.out)
      go_wp2_with (first
        | (go_at_call 17; refine (errNum_any _ _).mono ?_; rintro e w' ⟨rfl, rfl⟩)
        | fail)
      clear cI
      refine (hS.out (v : Int) _).mono ?_
      rintro e W14 ⟨rfl, hb⟩
      have hB14 := hid (bup hb hB13.out)
      have hA14 := hid (hA13.out.on hb)
      have hI14 := hid (hI13.out.below hb hI13.out.lt)
      clear hb hB13 hA13 hI13
      try (rename_i hKK; refine hKK _ _ ?_; clear hKK)
      go_wp2_with fail
      go_roundw
      case rel => exact ⟨i + 1, _, _, by omega, by omega, by go_num, by rw [List.length_set]; exact his'.out, hsw.out, hI14.out, hA14.out, hB14.out⟩
      case measure => simp [intOf]; omega
    · have hend : ¬ ((i : Int) < (n0 : Int)) ∨ ((i : Int) < (n0 : Int)) ∧ ¬ ((i : Int) < 60) := by omega
      clear hlt
      rcases hend with hend | ⟨hend, hend2⟩
      · as_aux_lemma =>
          go_wp2_with fail
          refine (dkSync_any _ _ _ 8 D _ hA10.out).mono ?_
          rintro e W11 ⟨rfl, hA, hT⟩
          have hA11 := hid hA
          have hB11 := hid (dk_below hB10.out hT hr.out hb'.out)
          have hI11 := hid (hT.holds hI10.out (Ne.symm hgn.out.1.2.1) (fun e => hgn.out.1.2.2 (Option.some.inj e).symm))
          clear hA hT hA10 hB10 hI10
          try (rename_i hKK; refine hKK _ _ ?_; clear hKK)
          go_wp2_with fail
          refine (dkCrash_any keep _ _ _ 8 D.sync _ hA11.out).mono ?_
          rintro e W12 ⟨rfl, hA, hT⟩
          have hA12 := hid hA
          have hB12 := hid (dk_below hB11.out hT hr.out hb'.out)
          have hI12 := hid (hT.holds hI11.out (Ne.symm hgn.out.1.2.1) (fun e => hgn.out.1.2.2 (Option.some.inj e).symm))
          clear hA hT hA11 hB11 hI11
          try (rename_i hKK; refine hKK _ _ ?_; clear hKK)
          have hsy2 := hid ((hsy'.out.sync).crash rfl keep)
          go_wp2_with fail
          go_loopw [15] (fun ix wr => ∃ j : Nat, j ≤ 8 ∧ ix = .int .i64 (j : Int) ∧ Holds wr gi 78 (i64s is) ∧ DiskAt wr (r + 2) r (r + 1) 8 (D.sync.crash keep) ∧ Below w.heap.size w wr) (fun ix _ => 8 - (intOf ix).toNat)
          case atStart => exact ⟨0, Nat.zero_le _, rfl, hI12.out, hA12.out, hB12.out⟩
          case round =>
            obtain ⟨j, hj8, rfl, hIr, hAr, hBr⟩ := hrel
            obtain ⟨W20, rfl⟩ : ∃ V, V = wr := ⟨_, rfl⟩
            have hI20 := hid hIr
            have hA20 := hid hAr
            have hB20 := hid hBr
            clear hIr hAr hBr hI12 hA12 hB12
            by_cases hjt : j < 8
            · have hjt' : (j : Int) < 8 := by omega
              have s3 : (0 : Int) ≤ (j : Int) := by omega
              have hjw := IntWalk.i64_in ((j : Int) + 1) (by omega)
              obtain ⟨u, hu⟩ : ∃ u, is[j]? = some u := ⟨_, List.getElem?_eq_getElem (by rw [his'.out]; exact hjt)⟩
              have hu' := hid hu
              clear hu
              go_wp2_with fail
              have hRd := dkRead_yes j _ _ _ 8 _ hjt _ hA20.out
              rw [hsy2.out.get hu'.out] at hRd
              refine hRd.mono ?_
              rintro e w' ⟨rfl, rfl⟩
              clear hRd
              try (rename_i hKK; refine hKK _ _ ?_; clear hKK)
              have cI := hI20.out.cK j _ (i64s_at hu'.out)
              go_wp2_with (first
                | (go_at_call 17; refine (errNum_any _ _).mono ?_; rintro e w' ⟨rfl, rfl⟩)
                | fail)
              clear cI
              refine (hS.out u _).mono ?_
              rintro e W21 ⟨rfl, hb⟩
              have hA21 := hid (hA20.out.on hb)
              have hB21 := hid (bup hb hB20.out)
              have hI21 := hid (hI20.out.below hb hI20.out.lt)
              clear hb hA20 hB20 hI20
              try (rename_i hKK; refine hKK _ _ ?_; clear hKK)
              go_wp2_with fail
              go_roundw
              case rel => exact ⟨j + 1, by omega, by go_num, hI21.out, hA21.out, hB21.out⟩
              case measure => simp [intOf]; omega
            · obtain rfl : j = 8 := by omega
              go_wp2_with (first
                | (go_at_call 17; refine (errNum_any _ _).mono ?_; rintro e w' ⟨rfl, rfl⟩)
                | fail)
              go_ret
              exact ⟨rfl, hB20.out⟩
      · as_aux_lemma =>
          go_wp2_with fail
          refine (dkSync_any _ _ _ 8 D _ hA10.out).mono ?_
          rintro e W11 ⟨rfl, hA, hT⟩
          have hA11 := hid hA
          have hB11 := hid (dk_below hB10.out hT hr.out hb'.out)
          have hI11 := hid (hT.holds hI10.out (Ne.symm hgn.out.1.2.1) (fun e => hgn.out.1.2.2 (Option.some.inj e).symm))
          clear hA hT hA10 hB10 hI10
          try (rename_i hKK; refine hKK _ _ ?_; clear hKK)
          go_wp2_with fail
          refine (dkCrash_any keep _ _ _ 8 D.sync _ hA11.out).mono ?_
          rintro e W12 ⟨rfl, hA, hT⟩
          have hA12 := hid hA
          have hB12 := hid (dk_below hB11.out hT hr.out hb'.out)
          have hI12 := hid (hT.holds hI11.out (Ne.symm hgn.out.1.2.1) (fun e => hgn.out.1.2.2 (Option.some.inj e).symm))
          clear hA hT hA11 hB11 hI11
          try (rename_i hKK; refine hKK _ _ ?_; clear hKK)
          have hsy2 := hid ((hsy'.out.sync).crash rfl keep)
          go_wp2_with fail
          go_loopw [15] (fun ix wr => ∃ j : Nat, j ≤ 8 ∧ ix = .int .i64 (j : Int) ∧ Holds wr gi 78 (i64s is) ∧ DiskAt wr (r + 2) r (r + 1) 8 (D.sync.crash keep) ∧ Below w.heap.size w wr) (fun ix _ => 8 - (intOf ix).toNat)
          case atStart => exact ⟨0, Nat.zero_le _, rfl, hI12.out, hA12.out, hB12.out⟩
          case round =>
            obtain ⟨j, hj8, rfl, hIr, hAr, hBr⟩ := hrel
            obtain ⟨W20, rfl⟩ : ∃ V, V = wr := ⟨_, rfl⟩
            have hI20 := hid hIr
            have hA20 := hid hAr
            have hB20 := hid hBr
            clear hIr hAr hBr hI12 hA12 hB12
            by_cases hjt : j < 8
            · have hjt' : (j : Int) < 8 := by omega
              have s3 : (0 : Int) ≤ (j : Int) := by omega
              have hjw := IntWalk.i64_in ((j : Int) + 1) (by omega)
              obtain ⟨u, hu⟩ : ∃ u, is[j]? = some u := ⟨_, List.getElem?_eq_getElem (by rw [his'.out]; exact hjt)⟩
              have hu' := hid hu
              clear hu
              go_wp2_with fail
              have hRd := dkRead_yes j _ _ _ 8 _ hjt _ hA20.out
              rw [hsy2.out.get hu'.out] at hRd
              refine hRd.mono ?_
              rintro e w' ⟨rfl, rfl⟩
              clear hRd
              try (rename_i hKK; refine hKK _ _ ?_; clear hKK)
              have cI := hI20.out.cK j _ (i64s_at hu'.out)
              go_wp2_with (first
                | (go_at_call 17; refine (errNum_any _ _).mono ?_; rintro e w' ⟨rfl, rfl⟩)
                | fail)
              clear cI
              refine (hS.out u _).mono ?_
              rintro e W21 ⟨rfl, hb⟩
              have hA21 := hid (hA20.out.on hb)
              have hB21 := hid (bup hb hB20.out)
              have hI21 := hid (hI20.out.below hb hI20.out.lt)
              clear hb hA20 hB20 hI20
              try (rename_i hKK; refine hKK _ _ ?_; clear hKK)
              go_wp2_with fail
              go_roundw
              case rel => exact ⟨j + 1, by omega, by go_num, hI21.out, hA21.out, hB21.out⟩
              case measure => simp [intOf]; omega
            · obtain rfl : j = 8 := by omega
              go_wp2_with (first
                | (go_at_call 17; refine (errNum_any _ _).mono ?_; rintro e w' ⟨rfl, rfl⟩)
                | fail)
              go_ret
              exact ⟨rfl, hB20.out⟩


end Go.Proofs.Ytbclmkpigdeilaa
