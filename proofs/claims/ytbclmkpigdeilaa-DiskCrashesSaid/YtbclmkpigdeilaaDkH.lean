/- Layer 7: DiskCrashes: behind a crash each sector holds what was synced, or what was written. -/
import Derived.Test.YtbclmkpigdeilaaDkG
namespace Go.Proofs.Ytbclmkpigdeilaa
open Go.RowKit
open Go.Lib (strCells strCells_length strCells_oneCell)

theorem grow_at {W W' : World} {o : Obj} (h : W.alloc o = W') : W.heap.size < W'.heap.size := by
  subst h
  simp
theorem bit_two (x : Int) : bits .and .i64 x 1 = 0 ∨ bits .and .i64 x 1 = 1 := by
  obtain ⟨k, hk, he, -⟩ := and_mask x 1 (by decide) 1 rfl
  have hk2 : k < 2 := hk
  rw [he]
  omega
theorem keepB_bit {keep : Int} {q : Nat} (h : q < 62) : (bits .and .i64 (keep / 2 ^ q) 1 = 1 ∧ keepB keep q = true) ∨ (bits .and .i64 (keep / 2 ^ q) 1 = 0 ∧ keepB keep q = false) := by
  unfold keepB bitAt
  rw [decide_eq_true h]
  rcases bit_two (keep / 2 ^ q) with e | e
  · rw [e]; exact .inr ⟨rfl, rfl⟩
  · rw [e]; exact .inl ⟨rfl, rfl⟩
theorem over_all {W W3 : World} {g : Nat} {t : TypeId} {cs ds : List Value} (h : Holds W g t ds) (hl : cs.length = ds.length) (e : W.setCells g 0 cs = W3) : Holds W3 g t cs := by
  subst e
  have h1 := h.put 0 cs (by rw [hl]; omega)
  rw [put_all _ _ hl] at h1
  exact h1
/-- What was written behind a sync: which sectors, what they held ahead of it. -/
structure CrSt (D : Dk) (was is : List Int) (fl : List Bool) : Prop where
  says : Says D is
  wl : was.length = 16
  il : is.length = 16
  fl_ : fl.length = 16
  old : ∀ k, k < 16 → oldGet D.old k = if fl.getD k false then some (secT (was.getD k 0)) else none
  same : ∀ k, k < 16 → fl.getD k false = false → is.getD k 0 = was.getD k 0
theorem CrSt.start {D : Dk} {was : List Int} (h : Says D was) (hl : was.length = 16) : CrSt D.sync was was (List.replicate 16 false) := by
  have hf : ∀ k, (List.replicate 16 false).getD k false = false := fun k => by
    rw [List.getD_eq_getElem?_getD, List.getElem?_replicate]
    split <;> rfl
  exact ⟨h.sync, hl, hl, List.length_replicate .., fun k _ => by rw [hf]; rfl, fun k _ _ => rfl⟩
theorem Says.getD {D : Dk} {is : List Int} (h : Says D is) {k : Nat} (hk : k < is.length) : D.xs.getD k ⟨#[]⟩ = secT (is.getD k 0) := by
  rw [List.getD_eq_getElem?_getD (l := is), List.getElem?_eq_getElem hk]
  exact h.get (List.getElem?_eq_getElem hk)
theorem CrSt.write {D : Dk} {was is : List Int} {fl : List Bool} (h : CrSt D was is fl) {a : Nat} (ha : a < 16) (v : Int) : CrSt (D.write a (secT v)) was (is.set a v) (fl.set a true) := by
  have hf : ∀ k, (fl.set a true).getD k false = if k = a then true else fl.getD k false := fun k => getD_set fl a k true false (by rw [h.fl_]; exact ha)
  have hi : ∀ k, (is.set a v).getD k 0 = if k = a then v else is.getD k 0 := fun k => getD_set is a k v 0 (by rw [h.il]; exact ha)
  refine ⟨h.says.write a v, h.wl, by rw [List.length_set]; exact h.il, by rw [List.length_set]; exact h.fl_, fun k hk => ?_, fun k hk hfk => ?_⟩
  · rw [hf]
    unfold Dk.write
    simp only
    have ho := h.old a ha
    cases hq : fl.getD a false with
    | true =>
      rw [hq, if_pos rfl] at ho
      have hd : dirt D.old a = true := by unfold dirt; rw [ho]; rfl
      rw [hd, if_pos rfl]
      by_cases e : k = a
      · subst e
        rw [if_pos rfl, if_pos rfl]
        exact ho
      · rw [if_neg e]
        exact h.old k hk
    | false =>
      rw [hq, if_neg (by decide)] at ho
      have hd : dirt D.old a = false := dirt_no.2 ho
      rw [hd, if_neg (by decide), oldGet_snoc _ ho]
      by_cases e : k = a
      · subst e
        rw [if_pos rfl, if_pos rfl, if_pos rfl, h.says.getD (by rw [h.il]; exact hk), h.same k hk hq]
      · rw [if_neg e, if_neg e]
        exact h.old k hk
  · rw [hf] at hfk
    by_cases e : k = a
    · rw [if_pos e] at hfk
      cases hfk
    · rw [if_neg e] at hfk
      rw [hi, if_neg e]
      exact h.same k hk hfk
theorem CrSt.dirt {D : Dk} {was is : List Int} {fl : List Bool} (h : CrSt D was is fl) {k : Nat} (hk : k < 16) : dirt D.old k = fl.getD k false := by
  unfold Go.Proofs.Ytbclmkpigdeilaa.dirt
  rw [h.old k hk]
  cases fl.getD k false <;> rfl
theorem CrSt.rank {D : Dk} {was is : List Int} {fl : List Bool} (h : CrSt D was is fl) {k : Nat} (hk : k < 16) : rank D.old (k + 1) = rank D.old k + if fl.getD k false then 1 else 0 := by rw [rank_succ, h.dirt hk]
/-- What a sector holds behind the crash. -/
theorem CrSt.crash {D : Dk} {was is : List Int} {fl : List Bool} (h : CrSt D was is fl) (hD : D.fine 16) (keep : Int) {k : Nat} (hk : k < 16) :
    (D.crash keep).xs.getD k ⟨#[]⟩ = secT (if fl.getD k false && keepB keep (Go.Proofs.Ytbclmkpigdeilaa.rank D.old k) then is.getD k 0 else was.getD k 0) := by
  have e : (D.crash keep).xs.getD k ⟨#[]⟩ = D.crashAt keep k := by
    unfold Dk.crash
    rw [List.getD_eq_getElem?_getD, List.getElem?_map, List.getElem?_range (by rw [hD.len]; exact hk)]
    rfl
  rw [e]
  unfold Dk.crashAt
  rw [h.old k hk, h.says.getD (by rw [h.il]; exact hk)]
  cases hf : fl.getD k false with
  | false =>
    show secT (is.getD k 0) = secT (was.getD k 0)
    rw [h.same k hk hf]
  | true => cases keepB keep (Go.Proofs.Ytbclmkpigdeilaa.rank D.old k) <;> simp
theorem i64s_get {is : List Int} {k : Nat} (hk : k < is.length) : (i64s is)[k]? = some (.int .i64 (is.getD k 0)) := by
  rw [List.getD_eq_getElem?_getD, List.getElem?_eq_getElem hk]
  exact i64s_at (List.getElem?_eq_getElem hk)
theorem i16_size {is : List Int} (h : is.length = 16) : (Try.prog.info? 72).map (·.size) = some (i64s is).length := by
  rw [i64s_length, h]
  kernel_rfl
theorem i16_sizeA {is : List Int} (h : is.length = 16) : (Try.prog.info? 72).map (·.size) = some (i64s is).toArray.size := by
  rw [List.size_toArray]
  exact i16_size h
theorem i64s_ones (is : List Int) : (i64s is).toArray.all (·.oneCell') = true := all_oneCell_toArray (fun v hv => by
  unfold i64s at hv
  obtain ⟨x, _, rfl⟩ := List.mem_map.1 hv
  rfl)

set_option maxRecDepth 100000 in
set_option maxHeartbeats 4000000 in
theorem DiskCrashes_law {w : World} (A0 : Option Addr) (n0 c0 : Nat) (zs : List Int) (hz : IntsIn w A0 n0 c0 zs) (A1 : Option Addr) (n1 c1 : Nat) (ys : List Int) (hy : IntsIn w A1 n1 c1 ys) (keep : Int) :
    Calls Try.prog 7 #[.slice A0 n0 c0, .slice A1 n1 c1, .int .i64 keep] w fun e w' => e = .returned (.bool true) ∧ Below w.heap.size w w' := by
  obtain ⟨hI0, hnc, hc8, -, -⟩ := hz
  obtain ⟨hJ0, hnc1, hc81, -, -⟩ := hy
  have hZ := hid hI0
  have hY := hid hJ0
  have hS := hid (fun c V => sector_any c V)
  have hAw := hid (awake7_any w)
  have hN16 := hid (fun V => dkNew_yes 16 (by decide) (by decide) V)
  clear hI0 hJ0
  go_enter Try.func7, Try.ntmps7
  go_wp2_with fail
  refine hAw.out.mono ?_
  rintro e W1 ⟨rfl, hb⟩
  have hB1 := hid hb
  clear hb hAw
  try (rename_i hKK; refine hKK _ _ ?_; clear hKK)
  go_wp2_with fail
  refine (hN16.out _).mono ?_
  rintro e W2 ⟨rfl, hA, hb⟩
  obtain ⟨r, hr0⟩ : ∃ r, W1.heap.size = r := ⟨_, rfl⟩
  rw [hr0] at hA hb ⊢
  have hr := hid (show w.heap.size ≤ r from by rw [← hr0]; exact hB1.out.size)
  have hb' := hid (show w.heap.size ≤ r + 1 from by rw [← hr0]; have := hB1.out.size; omega)
  have hrg := hid (show r + 2 < W2.heap.size from hA.lt.1)
  rw [← hr0] at hb
  have hA2 := hid hA
  have hB2 := hid (bup hb hB1.out)
  clear hA hb hr0 hB1
  try (rename_i hKK; refine hKK _ _ ?_; clear hKK)
  go_wp2_with (first
    | ((with_reducible refine at_slot (some 9) ?_); refine wpList_run rfl (.pointer (some ⟨W2.heap.size, 0, none⟩)) (W2.alloc (.cells (i64s (List.replicate 16 0)).toArray 72)) (by kernel_rfl) ?_; generalize hW : World.alloc _ _ = W3; obtain ⟨hN, hb⟩ := new_at hW; have hz3 := hid (grow_at hW); clear hW; have hB3 := hid (bup hb hB2.out); have hA3 := hid (hA2.out.on hb); have hI3 := hid hN; clear hb hB2 hA2 hN)
    | ((with_reducible refine at_slot (some 10) ?_); refine wpList_run rfl (.pointer (some ⟨W3.heap.size, 0, none⟩)) (W3.alloc (.cells (i64s (List.replicate 16 0)).toArray 72)) (by kernel_rfl) ?_; generalize hW : World.alloc _ _ = W4; obtain ⟨hN, hb⟩ := new_at hW; have hz4 := hid (grow_at hW); clear hW; have hB4 := hid (bup hb hB3.out); have hA4 := hid (hA3.out.on hb); have hI4 := hid (hI3.out.below hb hI3.out.lt); have hJ4 := hid hN; clear hb hB3 hA3 hI3 hN)
    | ((with_reducible refine at_slot (some 11) ?_); refine wpList_run rfl (.pointer (some ⟨W4.heap.size, 0, none⟩)) (W4.alloc (.cells (bools (List.replicate 16 false)).toArray 73)) (by kernel_rfl) ?_; generalize hW : World.alloc _ _ = W5; obtain ⟨hN, hb⟩ := new_at hW; have hz5 := hid (grow_at hW); clear hW; have hB5 := hid (bup hb hB4.out); have hA5 := hid (hA4.out.on hb); have hI5 := hid (hI4.out.below hb hI4.out.lt); have hJ5 := hid (hJ4.out.below hb hJ4.out.lt); have hF5 := hid hN; clear hb hB4 hA4 hI4 hJ4 hN)
    | fail)
  obtain ⟨gw, hgw0⟩ : ∃ g, W2.heap.size = g := ⟨_, rfl⟩
  obtain ⟨gs, hgs0⟩ : ∃ g, W3.heap.size = g := ⟨_, rfl⟩
  obtain ⟨gd, hgd0⟩ : ∃ g, W4.heap.size = g := ⟨_, rfl⟩
  have hgw := hid (show r + 2 < gw from by rw [← hgw0]; exact hrg.out)
  have hgs := hid (show gw < gs from by rw [← hgw0, ← hgs0]; exact hz3.out)
  have hgd := hid (show gs < gd from by rw [← hgs0, ← hgd0]; exact hz4.out)
  rw [hgw0] at hI5 ⊢
  rw [hgs0] at hJ5 ⊢
  rw [hgd0] at hF5 ⊢
  clear hgw0 hgs0 hgd0 hrg hz3 hz4 hz5
  go_loopw [12] (fun ix wr => ∃ (i : Nat) (was : List Int) (D : Dk), i ≤ n0 ∧ i ≤ 30 ∧ ix = .int .i64 (i : Int) ∧ was.length = 16 ∧ Says D was ∧ Holds wr gw 72 (i64s was) ∧ Holds wr gs 72 (i64s (List.replicate 16 0)) ∧ Holds wr gd 73 (bools (List.replicate 16 false)) ∧ DiskAt wr (r + 2) r (r + 1) 16 D ∧ Below w.heap.size w wr) (fun ix _ => n0 - (intOf ix).toNat)
  case atStart => exact ⟨0, _, _, Nat.zero_le _, by omega, rfl, rfl, Says.new 16, hI5.out, hJ5.out, hF5.out, hA5.out, hB5.out⟩
  case round =>
    obtain ⟨i, was, D, hi1, hi60, rfl, his, hsy, hIr, hJr, hFr, hAr, hBr⟩ := hrel
    obtain ⟨W10, rfl⟩ : ∃ V, V = wr := ⟨_, rfl⟩
    have hI10 := hid hIr
    have hJ10 := hid hJr
    have hF10 := hid hFr
    have hA10 := hid hAr
    have hB10 := hid hBr
    have his' := hid his
    have hsy' := hid hsy
    clear hIr hJr hFr hAr hBr his hsy hI5 hJ5 hF5 hA5 hB5
    by_cases hlt : i < n0 ∧ i < 30
    · obtain ⟨hl1, hl2⟩ := hlt
      have hl1' : (i : Int) < (n0 : Int) := by omega
      have hl2' : (i : Int) < 30 := by omega
      have s3 : (0 : Int) ≤ (i : Int) := by omega
      have hiw := IntWalk.i64_in ((i : Int) + 1) (by omega)
      obtain ⟨p, rfl, hpB, zc⟩ := (hZ.out.below hB10.out).get hl1
      obtain ⟨z, hz⟩ : ∃ z, zs.getD i 0 = z := ⟨_, rfl⟩
      rw [hz] at zc
      clear hz
      obtain ⟨a, ha, hand1, -⟩ := and_mask z 4 (by decide) 15 rfl
      obtain ⟨v, hv0, hand2, -⟩ := and_mask (z / 16) 8 (by decide) 255 rfl
      have ha8 : a < 16 := ha
      have ha8' : (a : Int) < 16 := by omega
      have s4 : (0 : Int) ≤ (a : Int) := by omega
      clear ha hv0
      have cI := hI10.out.cK a _ (i64s_get (by rw [his'.out]; exact ha8))
      have fI := hI10.out.frozen a
      go_wp2_with fail
      clear cI fI zc
      obtain ⟨W11, hW⟩ : ∃ V, W10.setCell ⟨gw, a, none⟩ (.int .i64 (v : Int)) = V := ⟨_, rfl⟩
      have hI11 := hid (show Holds W11 gw 72 (i64s (was.set a (v : Int))) from by rw [← hW, ← i64s_set]; exact hI10.out.set a _)
      have hA11 := hid (show DiskAt W11 (r + 2) r (r + 1) 16 D from by rw [← hW]; exact hA10.out.cell _ ⟨(by have := hgw.out; have := hgs.out; have := hgd.out; show _ ≠ gw; omega), (by have := hgw.out; have := hgs.out; have := hgd.out; show _ ≠ gw; omega), (by have := hgw.out; have := hgs.out; have := hgd.out; show _ ≠ gw; omega)⟩ _)
      have hB11 := hid (show Below w.heap.size w W11 from by rw [← hW]; exact hB10.out.setCell (by show w.heap.size ≤ gw; have := hr.out; have := hgw.out; have := hgs.out; have := hgd.out; omega) _)
      have hJ11 := hid (show Holds W11 _ _ _ from by rw [← hW]; exact hJ10.out.far ⟨gw, a, none⟩ (by have := hgw.out; have := hgs.out; have := hgd.out; show _ ≠ gw; omega) _)
      have hF11 := hid (show Holds W11 _ _ _ from by rw [← hW]; exact hF10.out.far ⟨gw, a, none⟩ (by have := hgw.out; have := hgs.out; have := hgd.out; show _ ≠ gw; omega) _)
      rw [hW]
      clear hW hA10 hB10 hI10 hJ10 hF10
      refine (hS.out (v : Int) _).mono ?_
      rintro e W12 ⟨rfl, hb⟩
      have hB12 := hid (bup hb hB11.out)
      have hA12 := hid (hA11.out.on hb)
      have hI12 := hid (hI11.out.below hb hI11.out.lt)
      have hJ12 := hid (hJ11.out.below hb hJ11.out.lt)
      have hF12 := hid (hF11.out.below hb hF11.out.lt)
      clear hb hB11 hA11 hI11 hJ11 hF11
      try (rename_i hKK; refine hKK _ _ ?_; clear hKK)
      go_wp2_with fail
      refine (dkWrite_yes a (secT (v : Int)) (secT_size _) _ _ _ 16 D ha8 _ hA12.out).mono ?_
      rintro e W13 ⟨rfl, hA, hT⟩
      have hA13 := hid hA
      have hB13 := hid (dk_below hB12.out hT hr.out hb'.out)
      have hI13 := hid (hT.holds hI12.out (by have := hgw.out; have := hgs.out; have := hgd.out; omega) (fun e => by have e2 := Option.some.inj e; have := hgw.out; have := hgs.out; have := hgd.out; omega))
      have hJ13 := hid (hT.holds hJ12.out (by have := hgw.out; have := hgs.out; have := hgd.out; omega) (fun e => by have e2 := Option.some.inj e; have := hgw.out; have := hgs.out; have := hgd.out; omega))
      have hF13 := hid (hT.holds hF12.out (by have := hgw.out; have := hgs.out; have := hgd.out; omega) (fun e => by have e2 := Option.some.inj e; have := hgw.out; have := hgs.out; have := hgd.out; omega))
      clear hA hT hA12 hB12 hI12 hJ12 hF12
      try (rename_i hKK; refine hKK _ _ ?_; clear hKK)
      go_wp2_with fail
      go_roundw
      case rel => exact ⟨i + 1, _, _, by omega, by omega, by go_num, by rw [List.length_set]; exact his'.out, hsy'.out.write a (v : Int), hI13.out, hJ13.out, hF13.out, hA13.out, hB13.out⟩
      case measure => simp [intOf]; omega
    · have hend : ¬ ((i : Int) < (n0 : Int)) ∨ ((i : Int) < (n0 : Int)) ∧ ¬ ((i : Int) < 30) := by omega
      clear hlt
      rcases hend with hend | ⟨hend, hend2⟩
      · as_aux_lemma =>
          go_wp2_with fail
          refine (dkSync_any _ _ _ 16 D _ hA10.out).mono ?_
          rintro e W11 ⟨rfl, hA, hT⟩
          have hA11 := hid hA
          have hB11 := hid (dk_below hB10.out hT hr.out hb'.out)
          have hI11 := hid (hT.holds hI10.out (by have := hgw.out; have := hgs.out; have := hgd.out; omega) (fun e => by have e2 := Option.some.inj e; have := hgw.out; have := hgs.out; have := hgd.out; omega))
          have hJ11 := hid (hT.holds hJ10.out (by have := hgw.out; have := hgs.out; have := hgd.out; omega) (fun e => by have e2 := Option.some.inj e; have := hgw.out; have := hgs.out; have := hgd.out; omega))
          have hF11 := hid (hT.holds hF10.out (by have := hgw.out; have := hgs.out; have := hgd.out; omega) (fun e => by have e2 := Option.some.inj e; have := hgw.out; have := hgs.out; have := hgd.out; omega))
          clear hA hT hA10 hB10 hI10 hJ10 hF10
          try (rename_i hKK; refine hKK _ _ ?_; clear hKK)
          go_wp2_with (first
            | ((with_reducible refine at_slot (some 61) ?_); refine wpList_load_mid rfl 72 (.tmp 9) rfl gw 0 rfl (i64s was) _ (by exact (hI11.out).range 0 _ (fun j _ => by rw [Nat.zero_add])) Try.underlying72 rfl (by exact i16_size his'.out) ?_)
            | ((with_reducible refine at_slot none ?_); refine wpList_store_mid rfl 72 (.tmp 10) (.tmp 61) rfl gs 0 (i64s was).toArray rfl rfl (by exact (hJ11.out).there 0 _ (by rw [List.size_toArray, i64s_length, i64s_length, his'.out]; exact Nat.le_refl _)) (by exact i16_sizeA his'.out) (by exact i64s_ones was) ?_; generalize hW : World.setCells _ _ _ _ = W12; have hI12 := hid (holds_fars hW hI11.out (by have := hgs.out; omega)); have hF12 := hid (holds_fars hW hF11.out (by have := hgd.out; omega)); have hJ12 := hid (over_all hJ11.out (by rw [i64s_length, i64s_length, his'.out]; rfl) hW); have hA12 := hid (hA11.out.far ⟨by have := hgw.out; have := hgs.out; omega, by have := hgw.out; have := hgs.out; omega, by have := hgw.out; have := hgs.out; omega⟩ hW); have hB12 := hid (below_store hB11.out (by have := hr.out; have := hgw.out; have := hgs.out; omega) hW); clear hW hI11 hJ11 hF11 hA11 hB11)
            | fail)
          have hst := hid (CrSt.start hsy'.out his'.out)
          obtain ⟨D1, hD1⟩ : ∃ D1, D.sync = D1 := ⟨_, rfl⟩
          rw [hD1] at hA12 hst
          clear hD1
          go_loopw [15] (fun ix wr => ∃ (i : Nat) (is : List Int) (fl : List Bool) (D : Dk), i ≤ n1 ∧ i ≤ 30 ∧ ix = .int .i64 (i : Int) ∧ CrSt D was is fl ∧ Holds wr gw 72 (i64s was) ∧ Holds wr gs 72 (i64s is) ∧ Holds wr gd 73 (bools fl) ∧ DiskAt wr (r + 2) r (r + 1) 16 D ∧ Below w.heap.size w wr) (fun ix _ => n1 - (intOf ix).toNat)
          case atStart => exact ⟨0, _, _, _, Nat.zero_le _, by omega, rfl, hst.out, hI12.out, hJ12.out, hF12.out, hA12.out, hB12.out⟩
          case round =>
            clear hsy' hst hI12 hJ12 hF12 hA12 hB12 D hend D1
            obtain ⟨i, is, fl, D, hi1, hi60, rfl, hsy, hIr, hJr, hFr, hAr, hBr⟩ := hrel
            obtain ⟨W20, rfl⟩ : ∃ V, V = wr := ⟨_, rfl⟩
            have hI20 := hid hIr
            have hJ20 := hid hJr
            have hF20 := hid hFr
            have hA20 := hid hAr
            have hB20 := hid hBr
            have hst := hid hsy
            clear hIr hJr hFr hAr hBr hsy
            by_cases hlt : i < n1 ∧ i < 30
            · obtain ⟨hl1, hl2⟩ := hlt
              have hl1' : (i : Int) < (n1 : Int) := by omega
              have hl2' : (i : Int) < 30 := by omega
              have s3 : (0 : Int) ≤ (i : Int) := by omega
              have hiw := IntWalk.i64_in ((i : Int) + 1) (by omega)
              obtain ⟨p, rfl, hpB, zc⟩ := (hY.out.below hB20.out).get hl1
              obtain ⟨z, hz⟩ : ∃ z, ys.getD i 0 = z := ⟨_, rfl⟩
              rw [hz] at zc
              clear hz
              obtain ⟨a, ha, hand1, -⟩ := and_mask z 4 (by decide) 15 rfl
              obtain ⟨v, hv0, hand2, -⟩ := and_mask (z / 16) 8 (by decide) 255 rfl
              have ha8 : a < 16 := ha
              have ha8' : (a : Int) < 16 := by omega
              have s4 : (0 : Int) ≤ (a : Int) := by omega
              clear ha hv0
              have cJ := hJ20.out.cK a _ (i64s_get (by rw [hst.out.il]; exact ha8))
              have fJ := hJ20.out.frozen a
              obtain ⟨cF, hcF⟩ : ∃ c, W20.cell? ⟨gd, a, none⟩ = some c := ⟨_, hF20.out.cK a _ (bools_at (by rw [hst.out.fl_]; exact ha8))⟩
              have fF := hF20.out.frozen a
              have hne1 : ¬ gs = gd := by have := hgd.out; omega
              have hne2 : ¬ gd = gs := by have := hgd.out; omega
              go_wp2_with fail
              clear cJ fJ fF hcF zc hne1 hne2
              obtain ⟨W21, hW⟩ : ∃ V, W20.setCell ⟨gs, a, none⟩ (.int .i64 (v : Int)) = V := ⟨_, rfl⟩
              have hJ21 := hid (show Holds W21 gs 72 (i64s (is.set a (v : Int))) from by rw [← hW, ← i64s_set]; exact hJ20.out.set a _)
              have hA21 := hid (show DiskAt W21 (r + 2) r (r + 1) 16 D from by rw [← hW]; exact hA20.out.cell _ ⟨(by have := hgw.out; have := hgs.out; have := hgd.out; show _ ≠ gs; omega), (by have := hgw.out; have := hgs.out; have := hgd.out; show _ ≠ gs; omega), (by have := hgw.out; have := hgs.out; have := hgd.out; show _ ≠ gs; omega)⟩ _)
              have hB21 := hid (show Below w.heap.size w W21 from by rw [← hW]; exact hB20.out.setCell (by show w.heap.size ≤ gs; have := hr.out; have := hgw.out; have := hgs.out; have := hgd.out; omega) _)
              have hI21 := hid (show Holds W21 _ _ _ from by rw [← hW]; exact hI20.out.far ⟨gs, a, none⟩ (by have := hgw.out; have := hgs.out; have := hgd.out; show _ ≠ gs; omega) _)
              have hF21 := hid (show Holds W21 _ _ _ from by rw [← hW]; exact hF20.out.far ⟨gs, a, none⟩ (by have := hgw.out; have := hgs.out; have := hgd.out; show _ ≠ gs; omega) _)
              rw [hW]
              clear hW hA20 hB20 hI20 hJ20 hF20
              obtain ⟨W22, hW⟩ : ∃ V, W21.setCell ⟨gd, a, none⟩ (.bool true) = V := ⟨_, rfl⟩
              have hF22 := hid (show Holds W22 gd 73 (bools (fl.set a true)) from by rw [← hW, ← bools_set]; exact hF21.out.set a _)
              have hA22 := hid (show DiskAt W22 (r + 2) r (r + 1) 16 D from by rw [← hW]; exact hA21.out.cell _ ⟨(by have := hgw.out; have := hgs.out; have := hgd.out; show _ ≠ gd; omega), (by have := hgw.out; have := hgs.out; have := hgd.out; show _ ≠ gd; omega), (by have := hgw.out; have := hgs.out; have := hgd.out; show _ ≠ gd; omega)⟩ _)
              have hB22 := hid (show Below w.heap.size w W22 from by rw [← hW]; exact hB21.out.setCell (by show w.heap.size ≤ gd; have := hr.out; have := hgw.out; have := hgs.out; have := hgd.out; omega) _)
              have hI22 := hid (show Holds W22 _ _ _ from by rw [← hW]; exact hI21.out.far ⟨gd, a, none⟩ (by have := hgw.out; have := hgs.out; have := hgd.out; show _ ≠ gd; omega) _)
              have hJ22 := hid (show Holds W22 _ _ _ from by rw [← hW]; exact hJ21.out.far ⟨gd, a, none⟩ (by have := hgw.out; have := hgs.out; have := hgd.out; show _ ≠ gd; omega) _)
              rw [hW]
              clear hW hA21 hB21 hI21 hJ21 hF21
              refine (hS.out (v : Int) _).mono ?_
              rintro e W23 ⟨rfl, hb⟩
              have hB23 := hid (bup hb hB22.out)
              have hA23 := hid (hA22.out.on hb)
              have hI23 := hid (hI22.out.below hb hI22.out.lt)
              have hJ23 := hid (hJ22.out.below hb hJ22.out.lt)
              have hF23 := hid (hF22.out.below hb hF22.out.lt)
              clear hb hB22 hA22 hI22 hJ22 hF22
              try (rename_i hKK; refine hKK _ _ ?_; clear hKK)
              go_wp2_with fail
              refine (dkWrite_yes a (secT (v : Int)) (secT_size _) _ _ _ 16 D ha8 _ hA23.out).mono ?_
              rintro e W24 ⟨rfl, hA, hT⟩
              have hA24 := hid hA
              have hB24 := hid (dk_below hB23.out hT hr.out hb'.out)
              have hI24 := hid (hT.holds hI23.out (by have := hgw.out; have := hgs.out; have := hgd.out; omega) (fun e => by have e2 := Option.some.inj e; have := hgw.out; have := hgs.out; have := hgd.out; omega))
              have hJ24 := hid (hT.holds hJ23.out (by have := hgw.out; have := hgs.out; have := hgd.out; omega) (fun e => by have e2 := Option.some.inj e; have := hgw.out; have := hgs.out; have := hgd.out; omega))
              have hF24 := hid (hT.holds hF23.out (by have := hgw.out; have := hgs.out; have := hgd.out; omega) (fun e => by have e2 := Option.some.inj e; have := hgw.out; have := hgs.out; have := hgd.out; omega))
              clear hA hT hA23 hB23 hI23 hJ23 hF23
              try (rename_i hKK; refine hKK _ _ ?_; clear hKK)
              go_wp2_with fail
              go_roundw
              case rel => exact ⟨i + 1, _, _, _, by omega, by omega, by go_num, hst.out.write ha8 (v : Int), hI24.out, hJ24.out, hF24.out, hA24.out, hB24.out⟩
              case measure => simp [intOf]; omega
            · have hend : ¬ ((i : Int) < (n1 : Int)) ∨ ((i : Int) < (n1 : Int)) ∧ ¬ ((i : Int) < 30) := by omega
              clear hlt
              rcases hend with hend | ⟨hend, hend2⟩
              · as_aux_lemma =>
                  go_wp2_with fail
                  have hfi := hid hA20.out.fine
                  refine (dkCrash_any keep _ _ _ 16 D _ hA20.out).mono ?_
                  rintro e W21 ⟨rfl, hA, hT⟩
                  have hA21 := hid hA
                  have hB21 := hid (dk_below hB20.out hT hr.out hb'.out)
                  have hI21 := hid (hT.holds hI20.out (by have := hgw.out; have := hgs.out; have := hgd.out; omega) (fun e => by have e2 := Option.some.inj e; have := hgw.out; have := hgs.out; have := hgd.out; omega))
                  have hJ21 := hid (hT.holds hJ20.out (by have := hgw.out; have := hgs.out; have := hgd.out; omega) (fun e => by have e2 := Option.some.inj e; have := hgw.out; have := hgs.out; have := hgd.out; omega))
                  have hF21 := hid (hT.holds hF20.out (by have := hgw.out; have := hgs.out; have := hgd.out; omega) (fun e => by have e2 := Option.some.inj e; have := hgw.out; have := hgs.out; have := hgd.out; omega))
                  clear hA hT hA20 hB20 hI20 hJ20 hF20
                  try (rename_i hKK; refine hKK _ _ ?_; clear hKK)
                  go_wp2_with fail
                  go_loopw [18, 19] (fun ax jx wr => ∃ j : Nat, j ≤ 16 ∧ jx = .int .i64 (j : Int) ∧ ax = .int .i64 ((rank D.old j : Nat) : Int) ∧ Holds wr gw 72 (i64s was) ∧ Holds wr gs 72 (i64s is) ∧ Holds wr gd 73 (bools fl) ∧ DiskAt wr (r + 2) r (r + 1) 16 (D.crash keep) ∧ Below w.heap.size w wr) (fun _ jx _ => 16 - (intOf jx).toNat)
                  case atStart => exact ⟨0, Nat.zero_le _, rfl, rfl, hI21.out, hJ21.out, hF21.out, hA21.out, hB21.out⟩
                  case round =>
                    clear hI21 hJ21 hF21 hA21 hB21
                    obtain ⟨j, hj16, rfl, rfl, hIr, hJr, hFr, hAr, hBr⟩ := hrel
                    obtain ⟨W30, rfl⟩ : ∃ V, V = wr := ⟨_, rfl⟩
                    have hI30 := hid hIr
                    have hJ30 := hid hJr
                    have hF30 := hid hFr
                    have hA30 := hid hAr
                    have hB30 := hid hBr
                    clear hIr hJr hFr hAr hBr
                    have hrk := rank_le D.old j
                    obtain ⟨q, hq⟩ : ∃ q, rank D.old j = q := ⟨_, rfl⟩
                    have hrn := hst.out.rank (k := j)
                    rw [hq] at hrk hrn ⊢
                    by_cases hjt : j < 16
                    · have hjt' : (j : Int) < 16 := by omega
                      have s3 : (0 : Int) ≤ (j : Int) := by omega
                      have hjw := IntWalk.i64_in ((j : Int) + 1) (by omega)
                      have hqw := IntWalk.i64_in ((q : Int) + 1) (by omega)
                      have q0 : (0 : Int) ≤ (q : Int) := by omega
                      have q62 : (q : Int) < 62 := by omega
                      have hrn := hid (hrn hjt)
                      have hcr := hst.out.crash hfi.out keep hjt
                      rw [hq] at hcr
                      have cI := hI30.out.cK j _ (i64s_get (by rw [hst.out.wl]; exact hjt))
                      have cJ := hJ30.out.cK j _ (i64s_get (by rw [hst.out.il]; exact hjt))
                      have cF := hF30.out.cK j _ (bools_at (by rw [hst.out.fl_]; exact hjt))
                      obtain ⟨x, hx⟩ : ∃ x, was.getD j 0 = x := ⟨_, rfl⟩
                      obtain ⟨y, hy⟩ : ∃ y, is.getD j 0 = y := ⟨_, rfl⟩
                      rw [hx] at cI hcr
                      rw [hy] at cJ hcr
                      have hqk : q < 62 := by omega
                      have kb := keepB_bit (keep := keep) hqk
                      have hq' := hid hq
                      clear hx hy hq hqk
                      cases hf : fl.getD j false with
                      | false =>
                        rw [hf] at cF hcr hrn
                        rw [Bool.false_and, if_neg (by decide)] at hcr
                        rw [if_neg (by decide)] at hrn
                        have hcr := hid hcr
                        clear hf kb
                        go_wp2_with fail
                        clear cI cJ cF
                        have hRd := dkRead_yes j _ _ _ 16 _ hjt _ hA30.out
                        rw [hcr.out] at hRd
                        refine hRd.mono ?_
                        rintro e w' ⟨rfl, rfl⟩
                        clear hRd
                        try (rename_i hKK; refine hKK _ _ ?_; clear hKK)
                        go_wp2_with (first
                          | (go_at_call 17; refine (errNum_any _ _).mono ?_; rintro e w' ⟨rfl, rfl⟩)
                          | fail)
                        refine (hS.out x _).mono ?_
                        rintro e W31 ⟨rfl, hb⟩
                        have hB31 := hid (bup hb hB30.out)
                        have hA31 := hid (hA30.out.on hb)
                        have hI31 := hid (hI30.out.below hb hI30.out.lt)
                        have hJ31 := hid (hJ30.out.below hb hJ30.out.lt)
                        have hF31 := hid (hF30.out.below hb hF30.out.lt)
                        clear hb hB30 hA30 hI30 hJ30 hF30
                        try (rename_i hKK; refine hKK _ _ ?_; clear hKK)
                        go_wp2_with fail
                        go_roundw
                        case rel => exact ⟨j + 1, by omega, by go_num, by rw [hrn.out]; first | rfl | go_num, hI31.out, hJ31.out, hF31.out, hA31.out, hB31.out⟩
                        case measure => simp [intOf]; omega
                      | true =>
                        rw [hf] at cF hcr hrn
                        rw [Bool.true_and] at hcr
                        rw [if_pos rfl] at hrn
                        clear hf
                        rcases kb with ⟨kb1, kb2⟩ | ⟨kb1, kb2⟩
                        · rw [kb2, if_pos rfl] at hcr
                          have hcr := hid hcr
                          have hbt : (bits .and .i64 (keep / 2 ^ q) 1 == 1) = true := by rw [kb1]; rfl
                          clear kb1 kb2
                          go_wp2_with fail
                          clear cI cJ cF
                          have hRd := dkRead_yes j _ _ _ 16 _ hjt _ hA30.out
                          rw [hcr.out] at hRd
                          refine hRd.mono ?_
                          rintro e w' ⟨rfl, rfl⟩
                          clear hRd
                          try (rename_i hKK; refine hKK _ _ ?_; clear hKK)
                          go_wp2_with (first
                            | (go_at_call 17; refine (errNum_any _ _).mono ?_; rintro e w' ⟨rfl, rfl⟩)
                            | fail)
                          refine (hS.out y _).mono ?_
                          rintro e W31 ⟨rfl, hb⟩
                          have hB31 := hid (bup hb hB30.out)
                          have hA31 := hid (hA30.out.on hb)
                          have hI31 := hid (hI30.out.below hb hI30.out.lt)
                          have hJ31 := hid (hJ30.out.below hb hJ30.out.lt)
                          have hF31 := hid (hF30.out.below hb hF30.out.lt)
                          clear hb hB30 hA30 hI30 hJ30 hF30
                          try (rename_i hKK; refine hKK _ _ ?_; clear hKK)
                          go_wp2_with fail
                          go_roundw
                          case rel => exact ⟨j + 1, by omega, by go_num, by rw [hrn.out]; first | rfl | go_num, hI31.out, hJ31.out, hF31.out, hA31.out, hB31.out⟩
                          case measure => simp [intOf]; omega
                        · rw [kb2, if_neg (by decide)] at hcr
                          have hcr := hid hcr
                          have hbt : (bits .and .i64 (keep / 2 ^ q) 1 == 1) = false := by rw [kb1]; rfl
                          clear kb1 kb2
                          go_wp2_with fail
                          clear cI cJ cF
                          have hRd := dkRead_yes j _ _ _ 16 _ hjt _ hA30.out
                          rw [hcr.out] at hRd
                          refine hRd.mono ?_
                          rintro e w' ⟨rfl, rfl⟩
                          clear hRd
                          try (rename_i hKK; refine hKK _ _ ?_; clear hKK)
                          go_wp2_with (first
                            | (go_at_call 17; refine (errNum_any _ _).mono ?_; rintro e w' ⟨rfl, rfl⟩)
                            | fail)
                          refine (hS.out x _).mono ?_
                          rintro e W31 ⟨rfl, hb⟩
                          have hB31 := hid (bup hb hB30.out)
                          have hA31 := hid (hA30.out.on hb)
                          have hI31 := hid (hI30.out.below hb hI30.out.lt)
                          have hJ31 := hid (hJ30.out.below hb hJ30.out.lt)
                          have hF31 := hid (hF30.out.below hb hF30.out.lt)
                          clear hb hB30 hA30 hI30 hJ30 hF30
                          try (rename_i hKK; refine hKK _ _ ?_; clear hKK)
                          go_wp2_with fail
                          go_roundw
                          case rel => exact ⟨j + 1, by omega, by go_num, by rw [hrn.out]; first | rfl | go_num, hI31.out, hJ31.out, hF31.out, hA31.out, hB31.out⟩
                          case measure => simp [intOf]; omega
                    · obtain rfl : j = 16 := by omega
                      clear hrn
                      go_wp2_with (first
                        | (go_at_call 17; refine (errNum_any _ _).mono ?_; rintro e w' ⟨rfl, rfl⟩)
                        | fail)
                      refine (dkDirty_any _ _ _ 16 _ _ hA30.out).mono ?_
                      rintro e w' ⟨rfl, rfl⟩
                      try (rename_i hKK; refine hKK _ _ ?_; clear hKK)
                      go_wp2_with fail
                      go_ret
                      exact ⟨rfl, hB30.out⟩
              · as_aux_lemma =>
                  go_wp2_with fail
                  have hfi := hid hA20.out.fine
                  refine (dkCrash_any keep _ _ _ 16 D _ hA20.out).mono ?_
                  rintro e W21 ⟨rfl, hA, hT⟩
                  have hA21 := hid hA
                  have hB21 := hid (dk_below hB20.out hT hr.out hb'.out)
                  have hI21 := hid (hT.holds hI20.out (by have := hgw.out; have := hgs.out; have := hgd.out; omega) (fun e => by have e2 := Option.some.inj e; have := hgw.out; have := hgs.out; have := hgd.out; omega))
                  have hJ21 := hid (hT.holds hJ20.out (by have := hgw.out; have := hgs.out; have := hgd.out; omega) (fun e => by have e2 := Option.some.inj e; have := hgw.out; have := hgs.out; have := hgd.out; omega))
                  have hF21 := hid (hT.holds hF20.out (by have := hgw.out; have := hgs.out; have := hgd.out; omega) (fun e => by have e2 := Option.some.inj e; have := hgw.out; have := hgs.out; have := hgd.out; omega))
                  clear hA hT hA20 hB20 hI20 hJ20 hF20
                  try (rename_i hKK; refine hKK _ _ ?_; clear hKK)
                  go_wp2_with fail
                  go_loopw [18, 19] (fun ax jx wr => ∃ j : Nat, j ≤ 16 ∧ jx = .int .i64 (j : Int) ∧ ax = .int .i64 ((rank D.old j : Nat) : Int) ∧ Holds wr gw 72 (i64s was) ∧ Holds wr gs 72 (i64s is) ∧ Holds wr gd 73 (bools fl) ∧ DiskAt wr (r + 2) r (r + 1) 16 (D.crash keep) ∧ Below w.heap.size w wr) (fun _ jx _ => 16 - (intOf jx).toNat)
                  case atStart => exact ⟨0, Nat.zero_le _, rfl, rfl, hI21.out, hJ21.out, hF21.out, hA21.out, hB21.out⟩
                  case round =>
                    clear hI21 hJ21 hF21 hA21 hB21
                    obtain ⟨j, hj16, rfl, rfl, hIr, hJr, hFr, hAr, hBr⟩ := hrel
                    obtain ⟨W30, rfl⟩ : ∃ V, V = wr := ⟨_, rfl⟩
                    have hI30 := hid hIr
                    have hJ30 := hid hJr
                    have hF30 := hid hFr
                    have hA30 := hid hAr
                    have hB30 := hid hBr
                    clear hIr hJr hFr hAr hBr
                    have hrk := rank_le D.old j
                    obtain ⟨q, hq⟩ : ∃ q, rank D.old j = q := ⟨_, rfl⟩
                    have hrn := hst.out.rank (k := j)
                    rw [hq] at hrk hrn ⊢
                    by_cases hjt : j < 16
                    · have hjt' : (j : Int) < 16 := by omega
                      have s3 : (0 : Int) ≤ (j : Int) := by omega
                      have hjw := IntWalk.i64_in ((j : Int) + 1) (by omega)
                      have hqw := IntWalk.i64_in ((q : Int) + 1) (by omega)
                      have q0 : (0 : Int) ≤ (q : Int) := by omega
                      have q62 : (q : Int) < 62 := by omega
                      have hrn := hid (hrn hjt)
                      have hcr := hst.out.crash hfi.out keep hjt
                      rw [hq] at hcr
                      have cI := hI30.out.cK j _ (i64s_get (by rw [hst.out.wl]; exact hjt))
                      have cJ := hJ30.out.cK j _ (i64s_get (by rw [hst.out.il]; exact hjt))
                      have cF := hF30.out.cK j _ (bools_at (by rw [hst.out.fl_]; exact hjt))
                      obtain ⟨x, hx⟩ : ∃ x, was.getD j 0 = x := ⟨_, rfl⟩
                      obtain ⟨y, hy⟩ : ∃ y, is.getD j 0 = y := ⟨_, rfl⟩
                      rw [hx] at cI hcr
                      rw [hy] at cJ hcr
                      have hqk : q < 62 := by omega
                      have kb := keepB_bit (keep := keep) hqk
                      have hq' := hid hq
                      clear hx hy hq hqk
                      cases hf : fl.getD j false with
                      | false =>
                        rw [hf] at cF hcr hrn
                        rw [Bool.false_and, if_neg (by decide)] at hcr
                        rw [if_neg (by decide)] at hrn
                        have hcr := hid hcr
                        clear hf kb
                        go_wp2_with fail
                        clear cI cJ cF
                        have hRd := dkRead_yes j _ _ _ 16 _ hjt _ hA30.out
                        rw [hcr.out] at hRd
                        refine hRd.mono ?_
                        rintro e w' ⟨rfl, rfl⟩
                        clear hRd
                        try (rename_i hKK; refine hKK _ _ ?_; clear hKK)
                        go_wp2_with (first
                          | (go_at_call 17; refine (errNum_any _ _).mono ?_; rintro e w' ⟨rfl, rfl⟩)
                          | fail)
                        refine (hS.out x _).mono ?_
                        rintro e W31 ⟨rfl, hb⟩
                        have hB31 := hid (bup hb hB30.out)
                        have hA31 := hid (hA30.out.on hb)
                        have hI31 := hid (hI30.out.below hb hI30.out.lt)
                        have hJ31 := hid (hJ30.out.below hb hJ30.out.lt)
                        have hF31 := hid (hF30.out.below hb hF30.out.lt)
                        clear hb hB30 hA30 hI30 hJ30 hF30
                        try (rename_i hKK; refine hKK _ _ ?_; clear hKK)
                        go_wp2_with fail
                        go_roundw
                        case rel => exact ⟨j + 1, by omega, by go_num, by rw [hrn.out]; first | rfl | go_num, hI31.out, hJ31.out, hF31.out, hA31.out, hB31.out⟩
                        case measure => simp [intOf]; omega
                      | true =>
                        rw [hf] at cF hcr hrn
                        rw [Bool.true_and] at hcr
                        rw [if_pos rfl] at hrn
                        clear hf
                        rcases kb with ⟨kb1, kb2⟩ | ⟨kb1, kb2⟩
                        · rw [kb2, if_pos rfl] at hcr
                          have hcr := hid hcr
                          have hbt : (bits .and .i64 (keep / 2 ^ q) 1 == 1) = true := by rw [kb1]; rfl
                          clear kb1 kb2
                          go_wp2_with fail
                          clear cI cJ cF
                          have hRd := dkRead_yes j _ _ _ 16 _ hjt _ hA30.out
                          rw [hcr.out] at hRd
                          refine hRd.mono ?_
                          rintro e w' ⟨rfl, rfl⟩
                          clear hRd
                          try (rename_i hKK; refine hKK _ _ ?_; clear hKK)
                          go_wp2_with (first
                            | (go_at_call 17; refine (errNum_any _ _).mono ?_; rintro e w' ⟨rfl, rfl⟩)
                            | fail)
                          refine (hS.out y _).mono ?_
                          rintro e W31 ⟨rfl, hb⟩
                          have hB31 := hid (bup hb hB30.out)
                          have hA31 := hid (hA30.out.on hb)
                          have hI31 := hid (hI30.out.below hb hI30.out.lt)
                          have hJ31 := hid (hJ30.out.below hb hJ30.out.lt)
                          have hF31 := hid (hF30.out.below hb hF30.out.lt)
                          clear hb hB30 hA30 hI30 hJ30 hF30
                          try (rename_i hKK; refine hKK _ _ ?_; clear hKK)
                          go_wp2_with fail
                          go_roundw
                          case rel => exact ⟨j + 1, by omega, by go_num, by rw [hrn.out]; first | rfl | go_num, hI31.out, hJ31.out, hF31.out, hA31.out, hB31.out⟩
                          case measure => simp [intOf]; omega
                        · rw [kb2, if_neg (by decide)] at hcr
                          have hcr := hid hcr
                          have hbt : (bits .and .i64 (keep / 2 ^ q) 1 == 1) = false := by rw [kb1]; rfl
                          clear kb1 kb2
                          go_wp2_with fail
                          clear cI cJ cF
                          have hRd := dkRead_yes j _ _ _ 16 _ hjt _ hA30.out
                          rw [hcr.out] at hRd
                          refine hRd.mono ?_
                          rintro e w' ⟨rfl, rfl⟩
                          clear hRd
                          try (rename_i hKK; refine hKK _ _ ?_; clear hKK)
                          go_wp2_with (first
                            | (go_at_call 17; refine (errNum_any _ _).mono ?_; rintro e w' ⟨rfl, rfl⟩)
                            | fail)
                          refine (hS.out x _).mono ?_
                          rintro e W31 ⟨rfl, hb⟩
                          have hB31 := hid (bup hb hB30.out)
                          have hA31 := hid (hA30.out.on hb)
                          have hI31 := hid (hI30.out.below hb hI30.out.lt)
                          have hJ31 := hid (hJ30.out.below hb hJ30.out.lt)
                          have hF31 := hid (hF30.out.below hb hF30.out.lt)
                          clear hb hB30 hA30 hI30 hJ30 hF30
                          try (rename_i hKK; refine hKK _ _ ?_; clear hKK)
                          go_wp2_with fail
                          go_roundw
                          case rel => exact ⟨j + 1, by omega, by go_num, by rw [hrn.out]; first | rfl | go_num, hI31.out, hJ31.out, hF31.out, hA31.out, hB31.out⟩
                          case measure => simp [intOf]; omega
                    · obtain rfl : j = 16 := by omega
                      clear hrn
                      go_wp2_with (first
                        | (go_at_call 17; refine (errNum_any _ _).mono ?_; rintro e w' ⟨rfl, rfl⟩)
                        | fail)
                      refine (dkDirty_any _ _ _ 16 _ _ hA30.out).mono ?_
                      rintro e w' ⟨rfl, rfl⟩
                      try (rename_i hKK; refine hKK _ _ ?_; clear hKK)
                      go_wp2_with fail
                      go_ret
                      exact ⟨rfl, hB30.out⟩
      · as_aux_lemma =>
          go_wp2_with fail
          refine (dkSync_any _ _ _ 16 D _ hA10.out).mono ?_
          rintro e W11 ⟨rfl, hA, hT⟩
          have hA11 := hid hA
          have hB11 := hid (dk_below hB10.out hT hr.out hb'.out)
          have hI11 := hid (hT.holds hI10.out (by have := hgw.out; have := hgs.out; have := hgd.out; omega) (fun e => by have e2 := Option.some.inj e; have := hgw.out; have := hgs.out; have := hgd.out; omega))
          have hJ11 := hid (hT.holds hJ10.out (by have := hgw.out; have := hgs.out; have := hgd.out; omega) (fun e => by have e2 := Option.some.inj e; have := hgw.out; have := hgs.out; have := hgd.out; omega))
          have hF11 := hid (hT.holds hF10.out (by have := hgw.out; have := hgs.out; have := hgd.out; omega) (fun e => by have e2 := Option.some.inj e; have := hgw.out; have := hgs.out; have := hgd.out; omega))
          clear hA hT hA10 hB10 hI10 hJ10 hF10
          try (rename_i hKK; refine hKK _ _ ?_; clear hKK)
          go_wp2_with (first
            | ((with_reducible refine at_slot (some 61) ?_); refine wpList_load_mid rfl 72 (.tmp 9) rfl gw 0 rfl (i64s was) _ (by exact (hI11.out).range 0 _ (fun j _ => by rw [Nat.zero_add])) Try.underlying72 rfl (by exact i16_size his'.out) ?_)
            | ((with_reducible refine at_slot none ?_); refine wpList_store_mid rfl 72 (.tmp 10) (.tmp 61) rfl gs 0 (i64s was).toArray rfl rfl (by exact (hJ11.out).there 0 _ (by rw [List.size_toArray, i64s_length, i64s_length, his'.out]; exact Nat.le_refl _)) (by exact i16_sizeA his'.out) (by exact i64s_ones was) ?_; generalize hW : World.setCells _ _ _ _ = W12; have hI12 := hid (holds_fars hW hI11.out (by have := hgs.out; omega)); have hF12 := hid (holds_fars hW hF11.out (by have := hgd.out; omega)); have hJ12 := hid (over_all hJ11.out (by rw [i64s_length, i64s_length, his'.out]; rfl) hW); have hA12 := hid (hA11.out.far ⟨by have := hgw.out; have := hgs.out; omega, by have := hgw.out; have := hgs.out; omega, by have := hgw.out; have := hgs.out; omega⟩ hW); have hB12 := hid (below_store hB11.out (by have := hr.out; have := hgw.out; have := hgs.out; omega) hW); clear hW hI11 hJ11 hF11 hA11 hB11)
            | fail)
          have hst := hid (CrSt.start hsy'.out his'.out)
          obtain ⟨D1, hD1⟩ : ∃ D1, D.sync = D1 := ⟨_, rfl⟩
          rw [hD1] at hA12 hst
          clear hD1
          go_loopw [15] (fun ix wr => ∃ (i : Nat) (is : List Int) (fl : List Bool) (D : Dk), i ≤ n1 ∧ i ≤ 30 ∧ ix = .int .i64 (i : Int) ∧ CrSt D was is fl ∧ Holds wr gw 72 (i64s was) ∧ Holds wr gs 72 (i64s is) ∧ Holds wr gd 73 (bools fl) ∧ DiskAt wr (r + 2) r (r + 1) 16 D ∧ Below w.heap.size w wr) (fun ix _ => n1 - (intOf ix).toNat)
          case atStart => exact ⟨0, _, _, _, Nat.zero_le _, by omega, rfl, hst.out, hI12.out, hJ12.out, hF12.out, hA12.out, hB12.out⟩
          case round =>
            clear hsy' hst hI12 hJ12 hF12 hA12 hB12 D hend D1
            obtain ⟨i, is, fl, D, hi1, hi60, rfl, hsy, hIr, hJr, hFr, hAr, hBr⟩ := hrel
            obtain ⟨W20, rfl⟩ : ∃ V, V = wr := ⟨_, rfl⟩
            have hI20 := hid hIr
            have hJ20 := hid hJr
            have hF20 := hid hFr
            have hA20 := hid hAr
            have hB20 := hid hBr
            have hst := hid hsy
            clear hIr hJr hFr hAr hBr hsy
            by_cases hlt : i < n1 ∧ i < 30
            · obtain ⟨hl1, hl2⟩ := hlt
              have hl1' : (i : Int) < (n1 : Int) := by omega
              have hl2' : (i : Int) < 30 := by omega
              have s3 : (0 : Int) ≤ (i : Int) := by omega
              have hiw := IntWalk.i64_in ((i : Int) + 1) (by omega)
              obtain ⟨p, rfl, hpB, zc⟩ := (hY.out.below hB20.out).get hl1
              obtain ⟨z, hz⟩ : ∃ z, ys.getD i 0 = z := ⟨_, rfl⟩
              rw [hz] at zc
              clear hz
              obtain ⟨a, ha, hand1, -⟩ := and_mask z 4 (by decide) 15 rfl
              obtain ⟨v, hv0, hand2, -⟩ := and_mask (z / 16) 8 (by decide) 255 rfl
              have ha8 : a < 16 := ha
              have ha8' : (a : Int) < 16 := by omega
              have s4 : (0 : Int) ≤ (a : Int) := by omega
              clear ha hv0
              have cJ := hJ20.out.cK a _ (i64s_get (by rw [hst.out.il]; exact ha8))
              have fJ := hJ20.out.frozen a
              obtain ⟨cF, hcF⟩ : ∃ c, W20.cell? ⟨gd, a, none⟩ = some c := ⟨_, hF20.out.cK a _ (bools_at (by rw [hst.out.fl_]; exact ha8))⟩
              have fF := hF20.out.frozen a
              have hne1 : ¬ gs = gd := by have := hgd.out; omega
              have hne2 : ¬ gd = gs := by have := hgd.out; omega
              go_wp2_with fail
              clear cJ fJ fF hcF zc hne1 hne2
              obtain ⟨W21, hW⟩ : ∃ V, W20.setCell ⟨gs, a, none⟩ (.int .i64 (v : Int)) = V := ⟨_, rfl⟩
              have hJ21 := hid (show Holds W21 gs 72 (i64s (is.set a (v : Int))) from by rw [← hW, ← i64s_set]; exact hJ20.out.set a _)
              have hA21 := hid (show DiskAt W21 (r + 2) r (r + 1) 16 D from by rw [← hW]; exact hA20.out.cell _ ⟨(by have := hgw.out; have := hgs.out; have := hgd.out; show _ ≠ gs; omega), (by have := hgw.out; have := hgs.out; have := hgd.out; show _ ≠ gs; omega), (by have := hgw.out; have := hgs.out; have := hgd.out; show _ ≠ gs; omega)⟩ _)
              have hB21 := hid (show Below w.heap.size w W21 from by rw [← hW]; exact hB20.out.setCell (by show w.heap.size ≤ gs; have := hr.out; have := hgw.out; have := hgs.out; have := hgd.out; omega) _)
              have hI21 := hid (show Holds W21 _ _ _ from by rw [← hW]; exact hI20.out.far ⟨gs, a, none⟩ (by have := hgw.out; have := hgs.out; have := hgd.out; show _ ≠ gs; omega) _)
              have hF21 := hid (show Holds W21 _ _ _ from by rw [← hW]; exact hF20.out.far ⟨gs, a, none⟩ (by have := hgw.out; have := hgs.out; have := hgd.out; show _ ≠ gs; omega) _)
              rw [hW]
              clear hW hA20 hB20 hI20 hJ20 hF20
              obtain ⟨W22, hW⟩ : ∃ V, W21.setCell ⟨gd, a, none⟩ (.bool true) = V := ⟨_, rfl⟩
              have hF22 := hid (show Holds W22 gd 73 (bools (fl.set a true)) from by rw [← hW, ← bools_set]; exact hF21.out.set a _)
              have hA22 := hid (show DiskAt W22 (r + 2) r (r + 1) 16 D from by rw [← hW]; exact hA21.out.cell _ ⟨(by have := hgw.out; have := hgs.out; have := hgd.out; show _ ≠ gd; omega), (by have := hgw.out; have := hgs.out; have := hgd.out; show _ ≠ gd; omega), (by have := hgw.out; have := hgs.out; have := hgd.out; show _ ≠ gd; omega)⟩ _)
              have hB22 := hid (show Below w.heap.size w W22 from by rw [← hW]; exact hB21.out.setCell (by show w.heap.size ≤ gd; have := hr.out; have := hgw.out; have := hgs.out; have := hgd.out; omega) _)
              have hI22 := hid (show Holds W22 _ _ _ from by rw [← hW]; exact hI21.out.far ⟨gd, a, none⟩ (by have := hgw.out; have := hgs.out; have := hgd.out; show _ ≠ gd; omega) _)
              have hJ22 := hid (show Holds W22 _ _ _ from by rw [← hW]; exact hJ21.out.far ⟨gd, a, none⟩ (by have := hgw.out; have := hgs.out; have := hgd.out; show _ ≠ gd; omega) _)
              rw [hW]
              clear hW hA21 hB21 hI21 hJ21 hF21
              refine (hS.out (v : Int) _).mono ?_
              rintro e W23 ⟨rfl, hb⟩
              have hB23 := hid (bup hb hB22.out)
              have hA23 := hid (hA22.out.on hb)
              have hI23 := hid (hI22.out.below hb hI22.out.lt)
              have hJ23 := hid (hJ22.out.below hb hJ22.out.lt)
              have hF23 := hid (hF22.out.below hb hF22.out.lt)
              clear hb hB22 hA22 hI22 hJ22 hF22
              try (rename_i hKK; refine hKK _ _ ?_; clear hKK)
              go_wp2_with fail
              refine (dkWrite_yes a (secT (v : Int)) (secT_size _) _ _ _ 16 D ha8 _ hA23.out).mono ?_
              rintro e W24 ⟨rfl, hA, hT⟩
              have hA24 := hid hA
              have hB24 := hid (dk_below hB23.out hT hr.out hb'.out)
              have hI24 := hid (hT.holds hI23.out (by have := hgw.out; have := hgs.out; have := hgd.out; omega) (fun e => by have e2 := Option.some.inj e; have := hgw.out; have := hgs.out; have := hgd.out; omega))
              have hJ24 := hid (hT.holds hJ23.out (by have := hgw.out; have := hgs.out; have := hgd.out; omega) (fun e => by have e2 := Option.some.inj e; have := hgw.out; have := hgs.out; have := hgd.out; omega))
              have hF24 := hid (hT.holds hF23.out (by have := hgw.out; have := hgs.out; have := hgd.out; omega) (fun e => by have e2 := Option.some.inj e; have := hgw.out; have := hgs.out; have := hgd.out; omega))
              clear hA hT hA23 hB23 hI23 hJ23 hF23
              try (rename_i hKK; refine hKK _ _ ?_; clear hKK)
              go_wp2_with fail
              go_roundw
              case rel => exact ⟨i + 1, _, _, _, by omega, by omega, by go_num, hst.out.write ha8 (v : Int), hI24.out, hJ24.out, hF24.out, hA24.out, hB24.out⟩
              case measure => simp [intOf]; omega
            · have hend : ¬ ((i : Int) < (n1 : Int)) ∨ ((i : Int) < (n1 : Int)) ∧ ¬ ((i : Int) < 30) := by omega
              clear hlt
              rcases hend with hend | ⟨hend, hend2⟩
              · as_aux_lemma =>
                  go_wp2_with fail
                  have hfi := hid hA20.out.fine
                  refine (dkCrash_any keep _ _ _ 16 D _ hA20.out).mono ?_
                  rintro e W21 ⟨rfl, hA, hT⟩
                  have hA21 := hid hA
                  have hB21 := hid (dk_below hB20.out hT hr.out hb'.out)
                  have hI21 := hid (hT.holds hI20.out (by have := hgw.out; have := hgs.out; have := hgd.out; omega) (fun e => by have e2 := Option.some.inj e; have := hgw.out; have := hgs.out; have := hgd.out; omega))
                  have hJ21 := hid (hT.holds hJ20.out (by have := hgw.out; have := hgs.out; have := hgd.out; omega) (fun e => by have e2 := Option.some.inj e; have := hgw.out; have := hgs.out; have := hgd.out; omega))
                  have hF21 := hid (hT.holds hF20.out (by have := hgw.out; have := hgs.out; have := hgd.out; omega) (fun e => by have e2 := Option.some.inj e; have := hgw.out; have := hgs.out; have := hgd.out; omega))
                  clear hA hT hA20 hB20 hI20 hJ20 hF20
                  try (rename_i hKK; refine hKK _ _ ?_; clear hKK)
                  go_wp2_with fail
                  go_loopw [18, 19] (fun ax jx wr => ∃ j : Nat, j ≤ 16 ∧ jx = .int .i64 (j : Int) ∧ ax = .int .i64 ((rank D.old j : Nat) : Int) ∧ Holds wr gw 72 (i64s was) ∧ Holds wr gs 72 (i64s is) ∧ Holds wr gd 73 (bools fl) ∧ DiskAt wr (r + 2) r (r + 1) 16 (D.crash keep) ∧ Below w.heap.size w wr) (fun _ jx _ => 16 - (intOf jx).toNat)
                  case atStart => exact ⟨0, Nat.zero_le _, rfl, rfl, hI21.out, hJ21.out, hF21.out, hA21.out, hB21.out⟩
                  case round =>
                    clear hI21 hJ21 hF21 hA21 hB21
                    obtain ⟨j, hj16, rfl, rfl, hIr, hJr, hFr, hAr, hBr⟩ := hrel
                    obtain ⟨W30, rfl⟩ : ∃ V, V = wr := ⟨_, rfl⟩
                    have hI30 := hid hIr
                    have hJ30 := hid hJr
                    have hF30 := hid hFr
                    have hA30 := hid hAr
                    have hB30 := hid hBr
                    clear hIr hJr hFr hAr hBr
                    have hrk := rank_le D.old j
                    obtain ⟨q, hq⟩ : ∃ q, rank D.old j = q := ⟨_, rfl⟩
                    have hrn := hst.out.rank (k := j)
                    rw [hq] at hrk hrn ⊢
                    by_cases hjt : j < 16
                    · have hjt' : (j : Int) < 16 := by omega
                      have s3 : (0 : Int) ≤ (j : Int) := by omega
                      have hjw := IntWalk.i64_in ((j : Int) + 1) (by omega)
                      have hqw := IntWalk.i64_in ((q : Int) + 1) (by omega)
                      have q0 : (0 : Int) ≤ (q : Int) := by omega
                      have q62 : (q : Int) < 62 := by omega
                      have hrn := hid (hrn hjt)
                      have hcr := hst.out.crash hfi.out keep hjt
                      rw [hq] at hcr
                      have cI := hI30.out.cK j _ (i64s_get (by rw [hst.out.wl]; exact hjt))
                      have cJ := hJ30.out.cK j _ (i64s_get (by rw [hst.out.il]; exact hjt))
                      have cF := hF30.out.cK j _ (bools_at (by rw [hst.out.fl_]; exact hjt))
                      obtain ⟨x, hx⟩ : ∃ x, was.getD j 0 = x := ⟨_, rfl⟩
                      obtain ⟨y, hy⟩ : ∃ y, is.getD j 0 = y := ⟨_, rfl⟩
                      rw [hx] at cI hcr
                      rw [hy] at cJ hcr
                      have hqk : q < 62 := by omega
                      have kb := keepB_bit (keep := keep) hqk
                      have hq' := hid hq
                      clear hx hy hq hqk
                      cases hf : fl.getD j false with
                      | false =>
                        rw [hf] at cF hcr hrn
                        rw [Bool.false_and, if_neg (by decide)] at hcr
                        rw [if_neg (by decide)] at hrn
                        have hcr := hid hcr
                        clear hf kb
                        go_wp2_with fail
                        clear cI cJ cF
                        have hRd := dkRead_yes j _ _ _ 16 _ hjt _ hA30.out
                        rw [hcr.out] at hRd
                        refine hRd.mono ?_
                        rintro e w' ⟨rfl, rfl⟩
                        clear hRd
                        try (rename_i hKK; refine hKK _ _ ?_; clear hKK)
                        go_wp2_with (first
                          | (go_at_call 17; refine (errNum_any _ _).mono ?_; rintro e w' ⟨rfl, rfl⟩)
                          | fail)
                        refine (hS.out x _).mono ?_
                        rintro e W31 ⟨rfl, hb⟩
                        have hB31 := hid (bup hb hB30.out)
                        have hA31 := hid (hA30.out.on hb)
                        have hI31 := hid (hI30.out.below hb hI30.out.lt)
                        have hJ31 := hid (hJ30.out.below hb hJ30.out.lt)
                        have hF31 := hid (hF30.out.below hb hF30.out.lt)
                        clear hb hB30 hA30 hI30 hJ30 hF30
                        try (rename_i hKK; refine hKK _ _ ?_; clear hKK)
                        go_wp2_with fail
                        go_roundw
                        case rel => exact ⟨j + 1, by omega, by go_num, by rw [hrn.out]; first | rfl | go_num, hI31.out, hJ31.out, hF31.out, hA31.out, hB31.out⟩
                        case measure => simp [intOf]; omega
                      | true =>
                        rw [hf] at cF hcr hrn
                        rw [Bool.true_and] at hcr
                        rw [if_pos rfl] at hrn
                        clear hf
                        rcases kb with ⟨kb1, kb2⟩ | ⟨kb1, kb2⟩
                        · rw [kb2, if_pos rfl] at hcr
                          have hcr := hid hcr
                          have hbt : (bits .and .i64 (keep / 2 ^ q) 1 == 1) = true := by rw [kb1]; rfl
                          clear kb1 kb2
                          go_wp2_with fail
                          clear cI cJ cF
                          have hRd := dkRead_yes j _ _ _ 16 _ hjt _ hA30.out
                          rw [hcr.out] at hRd
                          refine hRd.mono ?_
                          rintro e w' ⟨rfl, rfl⟩
                          clear hRd
                          try (rename_i hKK; refine hKK _ _ ?_; clear hKK)
                          go_wp2_with (first
                            | (go_at_call 17; refine (errNum_any _ _).mono ?_; rintro e w' ⟨rfl, rfl⟩)
                            | fail)
                          refine (hS.out y _).mono ?_
                          rintro e W31 ⟨rfl, hb⟩
                          have hB31 := hid (bup hb hB30.out)
                          have hA31 := hid (hA30.out.on hb)
                          have hI31 := hid (hI30.out.below hb hI30.out.lt)
                          have hJ31 := hid (hJ30.out.below hb hJ30.out.lt)
                          have hF31 := hid (hF30.out.below hb hF30.out.lt)
                          clear hb hB30 hA30 hI30 hJ30 hF30
                          try (rename_i hKK; refine hKK _ _ ?_; clear hKK)
                          go_wp2_with fail
                          go_roundw
                          case rel => exact ⟨j + 1, by omega, by go_num, by rw [hrn.out]; first | rfl | go_num, hI31.out, hJ31.out, hF31.out, hA31.out, hB31.out⟩
                          case measure => simp [intOf]; omega
                        · rw [kb2, if_neg (by decide)] at hcr
                          have hcr := hid hcr
                          have hbt : (bits .and .i64 (keep / 2 ^ q) 1 == 1) = false := by rw [kb1]; rfl
                          clear kb1 kb2
                          go_wp2_with fail
                          clear cI cJ cF
                          have hRd := dkRead_yes j _ _ _ 16 _ hjt _ hA30.out
                          rw [hcr.out] at hRd
                          refine hRd.mono ?_
                          rintro e w' ⟨rfl, rfl⟩
                          clear hRd
                          try (rename_i hKK; refine hKK _ _ ?_; clear hKK)
                          go_wp2_with (first
                            | (go_at_call 17; refine (errNum_any _ _).mono ?_; rintro e w' ⟨rfl, rfl⟩)
                            | fail)
                          refine (hS.out x _).mono ?_
                          rintro e W31 ⟨rfl, hb⟩
                          have hB31 := hid (bup hb hB30.out)
                          have hA31 := hid (hA30.out.on hb)
                          have hI31 := hid (hI30.out.below hb hI30.out.lt)
                          have hJ31 := hid (hJ30.out.below hb hJ30.out.lt)
                          have hF31 := hid (hF30.out.below hb hF30.out.lt)
                          clear hb hB30 hA30 hI30 hJ30 hF30
                          try (rename_i hKK; refine hKK _ _ ?_; clear hKK)
                          go_wp2_with fail
                          go_roundw
                          case rel => exact ⟨j + 1, by omega, by go_num, by rw [hrn.out]; first | rfl | go_num, hI31.out, hJ31.out, hF31.out, hA31.out, hB31.out⟩
                          case measure => simp [intOf]; omega
                    · obtain rfl : j = 16 := by omega
                      clear hrn
                      go_wp2_with (first
                        | (go_at_call 17; refine (errNum_any _ _).mono ?_; rintro e w' ⟨rfl, rfl⟩)
                        | fail)
                      refine (dkDirty_any _ _ _ 16 _ _ hA30.out).mono ?_
                      rintro e w' ⟨rfl, rfl⟩
                      try (rename_i hKK; refine hKK _ _ ?_; clear hKK)
                      go_wp2_with fail
                      go_ret
                      exact ⟨rfl, hB30.out⟩
              · as_aux_lemma =>
                  go_wp2_with fail
                  have hfi := hid hA20.out.fine
                  refine (dkCrash_any keep _ _ _ 16 D _ hA20.out).mono ?_
                  rintro e W21 ⟨rfl, hA, hT⟩
                  have hA21 := hid hA
                  have hB21 := hid (dk_below hB20.out hT hr.out hb'.out)
                  have hI21 := hid (hT.holds hI20.out (by have := hgw.out; have := hgs.out; have := hgd.out; omega) (fun e => by have e2 := Option.some.inj e; have := hgw.out; have := hgs.out; have := hgd.out; omega))
                  have hJ21 := hid (hT.holds hJ20.out (by have := hgw.out; have := hgs.out; have := hgd.out; omega) (fun e => by have e2 := Option.some.inj e; have := hgw.out; have := hgs.out; have := hgd.out; omega))
                  have hF21 := hid (hT.holds hF20.out (by have := hgw.out; have := hgs.out; have := hgd.out; omega) (fun e => by have e2 := Option.some.inj e; have := hgw.out; have := hgs.out; have := hgd.out; omega))
                  clear hA hT hA20 hB20 hI20 hJ20 hF20
                  try (rename_i hKK; refine hKK _ _ ?_; clear hKK)
                  go_wp2_with fail
                  go_loopw [18, 19] (fun ax jx wr => ∃ j : Nat, j ≤ 16 ∧ jx = .int .i64 (j : Int) ∧ ax = .int .i64 ((rank D.old j : Nat) : Int) ∧ Holds wr gw 72 (i64s was) ∧ Holds wr gs 72 (i64s is) ∧ Holds wr gd 73 (bools fl) ∧ DiskAt wr (r + 2) r (r + 1) 16 (D.crash keep) ∧ Below w.heap.size w wr) (fun _ jx _ => 16 - (intOf jx).toNat)
                  case atStart => exact ⟨0, Nat.zero_le _, rfl, rfl, hI21.out, hJ21.out, hF21.out, hA21.out, hB21.out⟩
                  case round =>
                    clear hI21 hJ21 hF21 hA21 hB21
                    obtain ⟨j, hj16, rfl, rfl, hIr, hJr, hFr, hAr, hBr⟩ := hrel
                    obtain ⟨W30, rfl⟩ : ∃ V, V = wr := ⟨_, rfl⟩
                    have hI30 := hid hIr
                    have hJ30 := hid hJr
                    have hF30 := hid hFr
                    have hA30 := hid hAr
                    have hB30 := hid hBr
                    clear hIr hJr hFr hAr hBr
                    have hrk := rank_le D.old j
                    obtain ⟨q, hq⟩ : ∃ q, rank D.old j = q := ⟨_, rfl⟩
                    have hrn := hst.out.rank (k := j)
                    rw [hq] at hrk hrn ⊢
                    by_cases hjt : j < 16
                    · have hjt' : (j : Int) < 16 := by omega
                      have s3 : (0 : Int) ≤ (j : Int) := by omega
                      have hjw := IntWalk.i64_in ((j : Int) + 1) (by omega)
                      have hqw := IntWalk.i64_in ((q : Int) + 1) (by omega)
                      have q0 : (0 : Int) ≤ (q : Int) := by omega
                      have q62 : (q : Int) < 62 := by omega
                      have hrn := hid (hrn hjt)
                      have hcr := hst.out.crash hfi.out keep hjt
                      rw [hq] at hcr
                      have cI := hI30.out.cK j _ (i64s_get (by rw [hst.out.wl]; exact hjt))
                      have cJ := hJ30.out.cK j _ (i64s_get (by rw [hst.out.il]; exact hjt))
                      have cF := hF30.out.cK j _ (bools_at (by rw [hst.out.fl_]; exact hjt))
                      obtain ⟨x, hx⟩ : ∃ x, was.getD j 0 = x := ⟨_, rfl⟩
                      obtain ⟨y, hy⟩ : ∃ y, is.getD j 0 = y := ⟨_, rfl⟩
                      rw [hx] at cI hcr
                      rw [hy] at cJ hcr
                      have hqk : q < 62 := by omega
                      have kb := keepB_bit (keep := keep) hqk
                      have hq' := hid hq
                      clear hx hy hq hqk
                      cases hf : fl.getD j false with
                      | false =>
                        rw [hf] at cF hcr hrn
                        rw [Bool.false_and, if_neg (by decide)] at hcr
                        rw [if_neg (by decide)] at hrn
                        have hcr := hid hcr
                        clear hf kb
                        go_wp2_with fail
                        clear cI cJ cF
                        have hRd := dkRead_yes j _ _ _ 16 _ hjt _ hA30.out
                        rw [hcr.out] at hRd
                        refine hRd.mono ?_
                        rintro e w' ⟨rfl, rfl⟩
                        clear hRd
                        try (rename_i hKK; refine hKK _ _ ?_; clear hKK)
                        go_wp2_with (first
                          | (go_at_call 17; refine (errNum_any _ _).mono ?_; rintro e w' ⟨rfl, rfl⟩)
                          | fail)
                        refine (hS.out x _).mono ?_
                        rintro e W31 ⟨rfl, hb⟩
                        have hB31 := hid (bup hb hB30.out)
                        have hA31 := hid (hA30.out.on hb)
                        have hI31 := hid (hI30.out.below hb hI30.out.lt)
                        have hJ31 := hid (hJ30.out.below hb hJ30.out.lt)
                        have hF31 := hid (hF30.out.below hb hF30.out.lt)
                        clear hb hB30 hA30 hI30 hJ30 hF30
                        try (rename_i hKK; refine hKK _ _ ?_; clear hKK)
                        go_wp2_with fail
                        go_roundw
                        case rel => exact ⟨j + 1, by omega, by go_num, by rw [hrn.out]; first | rfl | go_num, hI31.out, hJ31.out, hF31.out, hA31.out, hB31.out⟩
                        case measure => simp [intOf]; omega
                      | true =>
                        rw [hf] at cF hcr hrn
                        rw [Bool.true_and] at hcr
                        rw [if_pos rfl] at hrn
                        clear hf
                        rcases kb with ⟨kb1, kb2⟩ | ⟨kb1, kb2⟩
                        · rw [kb2, if_pos rfl] at hcr
                          have hcr := hid hcr
                          have hbt : (bits .and .i64 (keep / 2 ^ q) 1 == 1) = true := by rw [kb1]; rfl
                          clear kb1 kb2
                          go_wp2_with fail
                          clear cI cJ cF
                          have hRd := dkRead_yes j _ _ _ 16 _ hjt _ hA30.out
                          rw [hcr.out] at hRd
                          refine hRd.mono ?_
                          rintro e w' ⟨rfl, rfl⟩
                          clear hRd
                          try (rename_i hKK; refine hKK _ _ ?_; clear hKK)
                          go_wp2_with (first
                            | (go_at_call 17; refine (errNum_any _ _).mono ?_; rintro e w' ⟨rfl, rfl⟩)
                            | fail)
                          refine (hS.out y _).mono ?_
                          rintro e W31 ⟨rfl, hb⟩
                          have hB31 := hid (bup hb hB30.out)
                          have hA31 := hid (hA30.out.on hb)
                          have hI31 := hid (hI30.out.below hb hI30.out.lt)
                          have hJ31 := hid (hJ30.out.below hb hJ30.out.lt)
                          have hF31 := hid (hF30.out.below hb hF30.out.lt)
                          clear hb hB30 hA30 hI30 hJ30 hF30
                          try (rename_i hKK; refine hKK _ _ ?_; clear hKK)
                          go_wp2_with fail
                          go_roundw
                          case rel => exact ⟨j + 1, by omega, by go_num, by rw [hrn.out]; first | rfl | go_num, hI31.out, hJ31.out, hF31.out, hA31.out, hB31.out⟩
                          case measure => simp [intOf]; omega
                        · rw [kb2, if_neg (by decide)] at hcr
                          have hcr := hid hcr
                          have hbt : (bits .and .i64 (keep / 2 ^ q) 1 == 1) = false := by rw [kb1]; rfl
                          clear kb1 kb2
                          go_wp2_with fail
                          clear cI cJ cF
                          have hRd := dkRead_yes j _ _ _ 16 _ hjt _ hA30.out
                          rw [hcr.out] at hRd
                          refine hRd.mono ?_
                          rintro e w' ⟨rfl, rfl⟩
                          clear hRd
                          try (rename_i hKK; refine hKK _ _ ?_; clear hKK)
                          go_wp2_with (first
                            | (go_at_call 17; refine (errNum_any _ _).mono ?_; rintro e w' ⟨rfl, rfl⟩)
                            | fail)
                          refine (hS.out x _).mono ?_
                          rintro e W31 ⟨rfl, hb⟩
                          have hB31 := hid (bup hb hB30.out)
                          have hA31 := hid (hA30.out.on hb)
                          have hI31 := hid (hI30.out.below hb hI30.out.lt)
                          have hJ31 := hid (hJ30.out.below hb hJ30.out.lt)
                          have hF31 := hid (hF30.out.below hb hF30.out.lt)
                          clear hb hB30 hA30 hI30 hJ30 hF30
                          try (rename_i hKK; refine hKK _ _ ?_; clear hKK)
                          go_wp2_with fail
                          go_roundw
                          case rel => exact ⟨j + 1, by omega, by go_num, by rw [hrn.out]; first | rfl | go_num, hI31.out, hJ31.out, hF31.out, hA31.out, hB31.out⟩
                          case measure => simp [intOf]; omega
                    · obtain rfl : j = 16 := by omega
                      clear hrn
                      go_wp2_with (first
                        | (go_at_call 17; refine (errNum_any _ _).mono ?_; rintro e w' ⟨rfl, rfl⟩)
                        | fail)
                      refine (dkDirty_any _ _ _ 16 _ _ hA30.out).mono ?_
                      rintro e w' ⟨rfl, rfl⟩
                      try (rename_i hKK; refine hKK _ _ ?_; clear hKK)
                      go_wp2_with fail
                      go_ret
                      exact ⟨rfl, hB30.out⟩


end Go.Proofs.Ytbclmkpigdeilaa
