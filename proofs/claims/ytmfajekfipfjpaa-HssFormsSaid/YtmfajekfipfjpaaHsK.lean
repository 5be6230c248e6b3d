/- Layer 6: HssForms. -/
import Derived.Test.YtmfajekfipfjpaaHsJ
import Derived.Test.YtmfajekfipfjpaaArith
namespace Go.Proofs.Ytmfajekfipfjpaa
open Go.RowKit
open Go.Lib (strCells strCells_length strCells_oneCell)
attribute [local irreducible] Sha.compress Sha.blocks Sha.sha Sha.pad

theorem hVer_no {pb msg s : ByteArray} (h : ¬ pGood pb s) : hVer pb msg s = 600 := if_neg (fun x => h x.1)
theorem beh_not (x y : Nat) (hx : x < 4294967296) (hn : x ≠ y) (t : ByteArray) : behOk (be 4 x ++ t) y = false := by
  have hl : (be 4 x ++ t).data.toList = beL 4 x ++ t.data.toList := data_append _ _
  refine decide_eq_false (fun h => hn ?_)
  rw [← h.2, hl, List.take_left' (beL_length 4 x)]
  exact (numL_be 4 x hx).symm
theorem take3 {a b c dd : List UInt8} {n k : Nat} (ha : a.length = 4) (hb : b.length = 2220) (hc : c.length = 56) (hn : n = 2280 + k) : (a ++ (b ++ (c ++ dd))).take n = a ++ (b ++ (c ++ dd.take k)) := by
  rw [List.take_append, List.take_append, List.take_append, ha, hb, hc, List.take_of_length_le (l := a) (by omega), List.take_of_length_le (l := b) (by omega), List.take_of_length_le (l := c) (by omega), show n - 4 - 2220 - 56 = k by omega]
theorem hVer_other (P A L B msg : ByteArray) (zA : A.size = 2220) (zL : L.size = 56) (lenP : slLen P.data.toList = 2220) (lenL : slLen L.data.toList = 2220) (zB : B.size ≠ 2220) : hVer (be 4 2 ++ P) msg (be 4 1 ++ (A ++ (L ++ B))) = 600 := by
  have la : A.data.toList.length = 2220 := by rw [data_length]; exact zA
  have ll : L.data.toList.length = 56 := by rw [data_length]; exact zL
  obtain ⟨-, b2⟩ := beh_app 2 (by decide) P
  obtain ⟨-, c2⟩ := beh_app 1 (by decide) (A ++ (L ++ B))
  have e1 : pN (be 4 2 ++ P) = 2220 := by unfold pN; rw [b2]; exact lenP
  have e2 : pLow (be 4 2 ++ P) (be 4 1 ++ (A ++ (L ++ B))) = L := by
    unfold pLow
    rw [e1, c2]
    refine hb_ext ?_
    rw [cut_mid, data_append, data_append, List.drop_left' la]
    exact List.take_left' ll
  have e4 : (pTwo (be 4 2 ++ P) (be 4 1 ++ (A ++ (L ++ B)))).size = B.size := by
    unfold pTwo
    rw [e1, c2, ByteArray.size_extract, ByteArray.size_append, ByteArray.size_append, zA, zL]
    omega
  have ho : pOk (be 4 2 ++ P) (be 4 1 ++ (A ++ (L ++ B))) = false := by
    unfold pOk
    rw [e2, e4, lenL, decide_eq_false zB, Bool.and_false]
  unfold hVer
  rw [ho]
  exact if_neg (fun h => by cases h.2)

set_option maxRecDepth 100000 in
set_option maxHeartbeats 3000000 in
theorem HssForms_law {w : World} (wh x : Int) :
    Calls Try.prog 11 #[.int .i64 wh, .int .i64 x] w fun e w' => e = .returned (.bool true) ∧ Below w.heap.size w w' := by
  obtain ⟨k8, hk8, hand1, -⟩ := and_mask x 3 (by decide) 7 rfl
  have hk8' : k8 < 8 := hk8
  obtain ⟨d, hd⟩ : ∃ d, 1 + k8 = d := ⟨_, rfl⟩
  have hd1 : 1 ≤ d := by omega
  have hd8 : d ≤ 8 := by omega
  have hdi : 1 + (k8 : Int) = (d : Int) := by omega
  have ud := IntWalk.i64_in (d : Int) (by omega)
  clear hk8 hk8' hd
  obtain ⟨m, hm6, hme⟩ : ∃ m : Nat, m < 6 ∧ (IntKind.u64.wrap wh).tmod 6 = (m : Int) := by
    have e : IntKind.u64.wrap wh = wh % 18446744073709551616 := rfl
    refine ⟨((wh % 18446744073709551616) % 6).toNat, by omega, ?_⟩
    rw [e, Int.tmod_eq_emod_of_nonneg (by omega)]
    omega
  obtain ⟨P, A, L, B, hCut⟩ := cut6 ⟨#[102]⟩ 0 (by decide) ⟨#[109]⟩
  obtain ⟨kc, hkc⟩ : ∃ c, hCells ⟨#[102]⟩ 0 = c := ⟨_, rfl⟩
  obtain ⟨kc1, hkc1⟩ : ∃ c, hCells ⟨#[102]⟩ 1 = c := ⟨_, rfl⟩
  obtain ⟨k4c, hk4c⟩ : ∃ c, hCells ⟨#[102]⟩ 4 = c := ⟨_, rfl⟩
  have zp := hkPub_size ⟨#[102]⟩
  have zs := hkSig_size ⟨#[102]⟩ 0 ⟨#[109]⟩
  have hpb0' := hCut.pub
  have hsg0' := hCut.sig
  obtain ⟨pb, hpb⟩ : ∃ c, hkPub ⟨#[102]⟩ = c := ⟨_, rfl⟩
  obtain ⟨sg, hsg⟩ : ∃ c, hkSig ⟨#[102]⟩ 0 ⟨#[109]⟩ = c := ⟨_, rfl⟩
  have hKey := hid (fun W => show Calls Try.prog 28 #[.string ⟨#[102]⟩, .int .i64 0] W fun e w' => e = .returned (.agg kc.toArray) ∧ Below W.heap.size W w' from by rw [← hkc]; exact Key6_any ⟨#[102]⟩ 0 (by decide) W)
  have hPub := hid (fun W => hkPublic ⟨#[102]⟩ 0 (by decide) W)
  have hSg := hid (fun W => hkSign ⟨#[102]⟩ 0 (by decide) ⟨#[109]⟩ (by decide) W)
  have hSp := hid (fun W => hkSpent ⟨#[102]⟩ ⟨#[109]⟩ (by decide) W)
  rw [hkc, hpb] at hPub
  rw [hkc, hsg, hkc1] at hSg
  rw [hk4c] at hSp
  rw [hpb] at zp hpb0'
  rw [hsg] at zs hsg0'
  have hC := hid (hkc ▸ hkKey ⟨#[102]⟩ 0 : KeyH kc)
  have hC1 := hid (hkc1 ▸ hkKey ⟨#[102]⟩ 1 : KeyH kc1)
  have hC4 := hid (hk4c ▸ hkKey ⟨#[102]⟩ 4 : KeyH k4c)
  have hCz := hid zhKey
  have hset4 := hid (show kc.set 4 (.int .i64 4) = k4c from by rw [← hkc, ← hk4c]; rfl)
  obtain ⟨zP, zA, zL, zB, lenP, lenL⟩ := And.intro hCut.zP (And.intro hCut.zA (And.intro hCut.zL (And.intro hCut.zB (And.intro hCut.lenP hCut.lenL))))
  have zpi : ((pb.size : Int) == 60) = true := by rw [zp]; rfl
  have zsi : ¬ (sg.size : Int) < 100 := by omega
  have zsk : decide ((sg.size : Int) < 100) = false := decide_eq_false zsi
  have zpj : ((pb.size : Int) != 60) = false := by rw [zp]; rfl
  have q4 : (4 : Int) ≤ (pb.size : Int) := by omega
  have r4 : (4 : Int) ≤ (sg.size : Int) := by omega
  have hkk := hid hkc
  have hFa := hid (And.intro hpb0' (And.intro hsg0' (And.intro zp zs)))
  clear hpb0' hsg0' zp zs
  clear hpb hsg hkc hkc1 hk4c hCut
  go_enter Try.func11, Try.ntmps11
  go_wp2_with fail
  refine (awake6_any _).mono ?_
  rintro e W1 ⟨rfl, hb⟩
  have hB1 := hid hb
  clear hb
  go_wp2_with fail
  refine (hKey.out _).mono ?_
  rintro e W2 ⟨rfl, hb⟩
  have hB2 := hid (below_up hb hB1.out)
  clear hb hB1
  have hle := hid (show w.heap.size ≤ W2.heap.size from hB2.out.size)
  go_wp2_with (first
    | ((with_reducible refine at_slot (some 5) ?_); refine wpList_run rfl (.pointer (some ⟨W2.heap.size, 0, none⟩)) (W2.alloc (.cells zk.toArray 53)) (by kernel_rfl) ?_)
    | ((with_reducible refine at_slot none ?_); refine wpList_store_mid rfl 53 (.tmp 5) (.tmp 24) rfl W2.heap.size 0 kc.toArray rfl rfl (by exact hsk_there W2 _ hC.out.len) (by exact hC.out.size) (by exact hC.out.one) ?_; generalize hW : World.setCells _ _ _ _ = W3; obtain ⟨hN, hb⟩ := hsk_new hC.out.len hW; have hB3 := hid (below_up hb hB2.out); have hK3 := hid hN; clear hb hB2 hN; clear hW)
    | ((with_reducible refine at_slot (some 26) ?_); refine wpList_load_mid rfl 53 (.tmp 5) rfl W2.heap.size 0 rfl kc _ (by exact h_all hK3.out) Try.underlying53 rfl (by exact hC.out.size') ?_)
    | fail)
  refine (hPub.out _).mono ?_
  rintro e W4 ⟨rfl, hb⟩
  have hB4 := hid (below_up hb hB3.out)
  have hK4 := hid (hK3.out.below hb hK3.out.lt)
  clear hb hB3 hK3
  go_wp2_with (first
    | ((with_reducible refine at_slot (some 31) ?_); refine wpList_load_mid rfl 53 (.tmp 5) rfl W2.heap.size 0 rfl kc _ (by exact h_all hK4.out) Try.underlying53 rfl (by exact hC.out.size') ?_)
    | fail)
  refine (hSg.out _).mono ?_
  rintro e W5 ⟨rfl, hb⟩
  have hB5 := hid (below_up hb hB4.out)
  have hK5 := hid (hK4.out.below hb hK4.out.lt)
  clear hb hB4 hK4
  rcases (show m = 0 ∨ m = 1 ∨ m = 2 ∨ m = 3 ∨ m = 4 ∨ m = 5 from by omega) with rfl | rfl | rfl | rfl | rfl | rfl
  · skip
    obtain ⟨hpb0', hsg0', zp, zs⟩ := hFa.out
    obtain ⟨np, hnp⟩ : ∃ t, ⟨#[0, 0, 0, 1]⟩ ++ pb.extract 4 pb.size = t := ⟨_, rfl⟩
    have hve : hVer np ⟨#[109]⟩ sg = 600 := by
      exact hVer_no (fun h => by
        have e := beh_not 1 2 (by decide) (by decide) (pb.extract 4 pb.size)
        rw [show be 4 1 = ⟨#[0, 0, 0, 1]⟩ from rfl, hnp] at e
        have h0 := h.1
        rw [e] at h0
        cases h0)
    have znv : sg.size ≤ 140737488351232 := by omega
    have hv := hid (fun W => show Calls Try.prog 25 #[.string np, .string ⟨#[109]⟩, .string sg] W fun e w' => e = .returned (.int .i64 600) ∧ Below W.heap.size W w' from by
      have hz := hVerify_any np ⟨#[109]⟩ sg (by decide) znv W
      rw [hve] at hz
      exact hz)
    clear hve znv
    obtain ⟨kb, hkb⟩ : ∃ c, keyC 3 1 (hId ⟨#[102]⟩) (hSeed ⟨#[102]⟩) (4 + (d : Int)) = c := ⟨_, rfl⟩
    have hCb := hid (⟨by rw [← hkb]; rfl, by rw [← hkb]; exact keyC_one _ _ _ _ _, by rw [← hkb]; exact sizeHss, by rw [← hkb]; exact sizeHss⟩ : KeyH kb)
    have hok : hOk 3 1 (hId ⟨#[102]⟩) (hSeed ⟨#[102]⟩) (4 + (d : Int)) = false := by unfold hOk; rw [hpar3, hId_size, hSeed_size, decide_eq_true (by omega : (0 : Int) ≤ 4 + (d : Int)), show ((2 ^ (2 * (1 : Int).toNat) : Nat) : Int) = 4 from rfl, decide_eq_false (by omega : ¬ 4 + (d : Int) ≤ 4)]; rfl
    have hPb := hid (fun W => show Calls Try.prog 29 #[.agg kb.toArray] W fun e w' => e = .returned (.tuple #[.string ⟨#[]⟩, .int .i64 600]) ∧ Below W.heap.size W w' from by rw [← hkb]; exact hPublic_bad _ _ _ _ _ hok W)
    have hSb := hid (fun W => show Calls Try.prog 30 #[.agg kb.toArray, .string ⟨#[109]⟩] W fun e w' => e = .returned (.tuple #[.string ⟨#[]⟩, .agg zk.toArray, .int .i64 600]) ∧ Below W.heap.size W w' from by rw [← hkb]; exact hSign_bad1 _ _ _ _ _ hok _ W)
    have hLb := hid (fun W => show Calls Try.prog 31 #[.agg kb.toArray] W fun e w' => e = .returned (.int .i64 0) ∧ Below W.heap.size W w' from by rw [← hkb]; exact hLeft_bad _ _ _ _ _ hok W)
    have hset := hid (show kc.set 4 (.int .i64 (4 + (d : Int))) = kb from by rw [← hkk.out, ← hkb]; rfl)
    clear hok hkb
    obtain ⟨ta, hta⟩ : ∃ t, pb.extract 4 pb.size = t := ⟨_, rfl⟩
    rw [hta] at hnp
    have lta : ta.size ≤ 5000 := by rw [← hta, ByteArray.size_extract]; omega
    have l1 : 4 + ta.size ≤ 9223372036854775807 := by omega
    have ux := IntWalk.i64_in (4 + (d : Int)) (by omega)
    clear zs zp zP zA zL zB lenP lenL hpb0' hsg0'
    go_wp2_with (first
      | ((with_reducible refine at_slot (some 9) ?_); refine wpList_run rfl (.pointer (some ⟨W5.heap.size, 0, none⟩)) (W5.alloc (.cells zk.toArray 53)) (by kernel_rfl) ?_)
      | ((with_reducible refine at_slot none ?_); refine wpList_store_mid rfl 53 (.tmp 9) (.tmp 34) rfl W5.heap.size 0 kc1.toArray rfl rfl (by exact hsk_there W5 _ hC1.out.len) (by exact hC1.out.size) (by exact hC1.out.one) ?_; generalize hW : World.setCells _ _ _ _ = W6; obtain ⟨-, hb⟩ := hsk_new hC1.out.len hW; have hB6 := hid (below_up hb hB5.out); have hK6 := hid (hK5.out.below hb hK5.out.lt); clear hb hB5 hK5; have hlq := hK6.out.lt; have hlw := hB6.out.size; clear hW)
      | (go_at_call 16; refine (errNum_any _ _).mono ?_; rintro e w' ⟨rfl, rfl⟩)
      | ((with_reducible refine at_slot (some 52) ?_); refine wpList_load_mid rfl 53 (.tmp 5) rfl W2.heap.size 0 rfl kc _ (by exact h_all hK6.out) Try.underlying53 rfl (by exact hC.out.size') ?_)
      | ((with_reducible refine at_slot (some 12) ?_); refine wpList_run rfl (.pointer (some ⟨W6.heap.size, 0, none⟩)) (W6.alloc (.cells zk.toArray 53)) (by kernel_rfl) ?_)
      | ((with_reducible refine at_slot none ?_); refine wpList_store_mid rfl 53 (.tmp 12) (.tmp 52) rfl W6.heap.size 0 kc.toArray rfl rfl (by exact hsk_there W6 _ hC.out.len) (by exact hC.out.size) (by exact hC.out.one) ?_; generalize hW : World.setCells _ _ _ _ = W7; obtain ⟨hN, hb⟩ := hsk_new hC.out.len hW; have hB7 := hid (below_up hb hB6.out); have hK7 := hid (hK6.out.below hb hK6.out.lt); have hM7 := hid hN; clear hb hB6 hK6 hN; have fz := hM7.out.frozen 4; obtain ⟨cx, hcx⟩ := Option.isSome_iff_exists.1 (show (W7.cell? ⟨W6.heap.size, 4, none⟩).isSome = true from by rw [hM7.out.cell]; simp [hC.out.len]); have hMn := hid (show Holds (W7.setCell ⟨W6.heap.size, 4, none⟩ (.int .i64 (4 + (d : Int)))) W6.heap.size 53 kb from by rw [← hset.out]; exact hM7.out.set 4 _); have hKn := hid (show Holds (W7.setCell ⟨W6.heap.size, 4, none⟩ (.int .i64 (4 + (d : Int)))) W2.heap.size 53 kc from holds_far (vs := [.int .i64 (4 + (d : Int))]) hK7.out (by omega) rfl); have hBn := hid (show Below w.heap.size w (W7.setCell ⟨W6.heap.size, 4, none⟩ (.int .i64 (4 + (d : Int)))) from below_put (vs := [.int .i64 (4 + (d : Int))]) hB7.out hlw rfl); clear hW)
      | ((with_reducible refine at_slot (some 97) ?_); refine wpList_load_mid rfl 53 (.tmp 12) rfl W6.heap.size 0 rfl kb _ (by exact h_all hMn.out) Try.underlying53 rfl (by exact hCb.out.size') ?_)
      | fail)
    obtain ⟨W8, hWn⟩ : ∃ V, (W7.setCell ⟨W6.heap.size, 4, none⟩ (.int .i64 (4 + (d : Int)))) = V := ⟨_, rfl⟩
    rw [hWn] at hMn hKn hBn ⊢
    have hM8 := hMn
    have hK8 := hKn
    have hB8 := hBn
    clear hWn hMn hKn hBn fz hcx hM7 hK7 hB7
    refine (hPb.out _).mono ?_
    rintro e W9 ⟨rfl, hb⟩
    have hB9 := hid (below_up hb hB8.out)
    have hK9 := hid (hK8.out.below hb hK8.out.lt)
    have hM9 := hid (hM8.out.below hb hM8.out.lt)
    clear hb hB8 hK8 hM8
    go_wp2_with (first
      | ((with_reducible refine at_slot (some 102) ?_); refine wpList_load_mid rfl 53 (.tmp 12) rfl W6.heap.size 0 rfl kb _ (by exact h_all hM9.out) Try.underlying53 rfl (by exact hCb.out.size') ?_)
      | fail)
    refine (hSb.out _).mono ?_
    rintro e W10 ⟨rfl, hb⟩
    have hB10 := hid (below_up hb hB9.out)
    have hK10 := hid (hK9.out.below hb hK9.out.lt)
    have hM10 := hid (hM9.out.below hb hM9.out.lt)
    clear hb hB9 hK9 hM9
    go_wp2_with (first
      | ((with_reducible refine at_slot (some 16) ?_); refine wpList_run rfl (.pointer (some ⟨W10.heap.size, 0, none⟩)) (W10.alloc (.cells zk.toArray 53)) (by kernel_rfl) ?_)
      | ((with_reducible refine at_slot none ?_); refine wpList_store_mid rfl 53 (.tmp 16) (.tmp 105) rfl W10.heap.size 0 zk.toArray rfl rfl (by exact hsk_there W10 _ hCz.out.len) (by exact hCz.out.size) (by exact hCz.out.one) ?_; generalize hW : World.setCells _ _ _ _ = W11; obtain ⟨-, hb⟩ := hsk_new hCz.out.len hW; have hB11 := hid (below_up hb hB10.out); have hK11 := hid (hK10.out.below hb hK10.out.lt); have hM11 := hid (hM10.out.below hb hM10.out.lt); clear hb hB10 hK10 hM10; clear hW)
      | fail)
    refine (hv.out _).mono ?_
    rintro e W12 ⟨rfl, hb⟩
    have hB12 := hid (below_up hb hB11.out)
    have hK12 := hid (hK11.out.below hb hK11.out.lt)
    have hM12 := hid (hM11.out.below hb hM11.out.lt)
    clear hb hB11 hK11 hM11
    have fz := hK12.out.frozen 4
    obtain ⟨cx, hcx⟩ := Option.isSome_iff_exists.1 (show (W12.cell? ⟨W2.heap.size, 4, none⟩).isSome = true from by rw [hK12.out.cell]; simp [hC.out.len])
    have hKn := hid (show Holds (W12.setCell ⟨W2.heap.size, 4, none⟩ (.int .i64 4)) W2.heap.size 53 k4c from by rw [← hset4.out]; exact hK12.out.set 4 _)
    have hMn := hid (show Holds (W12.setCell ⟨W2.heap.size, 4, none⟩ (.int .i64 4)) W6.heap.size 53 kb from holds_far (vs := [.int .i64 4]) hM12.out (by omega) rfl)
    have hBn := hid (show Below w.heap.size w (W12.setCell ⟨W2.heap.size, 4, none⟩ (.int .i64 4)) from below_put (vs := [.int .i64 4]) hB12.out hle.out rfl)
    go_wp2_with (first
      | ((with_reducible refine at_slot (some 112) ?_); refine wpList_load_mid rfl 53 (.tmp 5) rfl W2.heap.size 0 rfl k4c _ (by exact h_all hKn.out) Try.underlying53 rfl (by exact hC4.out.size') ?_)
      | fail)
    obtain ⟨W13, hWn⟩ : ∃ V, (W12.setCell ⟨W2.heap.size, 4, none⟩ (.int .i64 4)) = V := ⟨_, rfl⟩
    rw [hWn] at hMn hKn hBn ⊢
    have hM13 := hMn
    have hK13 := hKn
    have hB13 := hBn
    clear hWn hMn hKn hBn fz hcx hM12 hK12 hB12
    refine (hSp.out _).mono ?_
    rintro e W14 ⟨rfl, hb⟩
    have hB14 := hid (below_up hb hB13.out)
    have hM14 := hid (hM13.out.below hb hM13.out.lt)
    clear hb hB13 hM13
    go_wp2_with (first
      | ((with_reducible refine at_slot (some 20) ?_); refine wpList_run rfl (.pointer (some ⟨W14.heap.size, 0, none⟩)) (W14.alloc (.cells zk.toArray 53)) (by kernel_rfl) ?_)
      | ((with_reducible refine at_slot none ?_); refine wpList_store_mid rfl 53 (.tmp 20) (.tmp 115) rfl W14.heap.size 0 zk.toArray rfl rfl (by exact hsk_there W14 _ hCz.out.len) (by exact hCz.out.size) (by exact hCz.out.one) ?_; generalize hW : World.setCells _ _ _ _ = W15; obtain ⟨-, hb⟩ := hsk_new hCz.out.len hW; have hB15 := hid (below_up hb hB14.out); have hM15 := hid (hM14.out.below hb hM14.out.lt); clear hb hB14 hM14; clear hW)
      | (go_at_call 16; refine (errNum_any _ _).mono ?_; rintro e w' ⟨rfl, rfl⟩)
      | ((with_reducible refine at_slot (some 131) ?_); refine wpList_load_any_on (by kernel_rfl) 53 (.tmp 12) rfl ⟨W6.heap.size, 0, none⟩ rfl kb _ (by exact h_any hM15.out) Try.underlying53 rfl (by exact hCb.out.size') ?_)
      | fail)
    refine (hLb.out _).mono ?_
    rintro e W16 ⟨rfl, hb⟩
    have hB16 := hid (below_up hb hB15.out)
    clear hb hB15
    go_wp2_with (first
      | (go_at_call 16; refine (errNum_any _ _).mono ?_; rintro e w' ⟨rfl, rfl⟩)
      | fail)
    go_ret
    exact ⟨rfl, hB16.out⟩
  · skip
    obtain ⟨hpb0', hsg0', zp, zs⟩ := hFa.out
    obtain ⟨np, hnp⟩ : ∃ t, pb ++ ⟨#[97]⟩ = t := ⟨_, rfl⟩
    have hve : hVer np ⟨#[109]⟩ sg = 600 := by
      exact hVer_no (fun h => by
        have e := (beh_app 2 (by decide) (P ++ ⟨#[97]⟩)).2
        have e2 : be 4 2 ++ (P ++ ⟨#[97]⟩) = np := by
          rw [← hnp, hpb0']
          refine hb_ext ?_
          simp only [data_append, List.append_assoc]
        rw [e2] at e
        have h0 := h.2.1
        rw [e, ByteArray.size_append, zP] at h0
        cases h0)
    have znv : sg.size ≤ 140737488351232 := by omega
    have hv := hid (fun W => show Calls Try.prog 25 #[.string np, .string ⟨#[109]⟩, .string sg] W fun e w' => e = .returned (.int .i64 600) ∧ Below W.heap.size W w' from by
      have hz := hVerify_any np ⟨#[109]⟩ sg (by decide) znv W
      rw [hve] at hz
      exact hz)
    clear hve znv
    obtain ⟨kb, hkb⟩ : ∃ c, keyC 3 1 (hId ⟨#[102]⟩) (hSeed ⟨#[102]⟩) (-(d : Int)) = c := ⟨_, rfl⟩
    have hCb := hid (⟨by rw [← hkb]; rfl, by rw [← hkb]; exact keyC_one _ _ _ _ _, by rw [← hkb]; exact sizeHss, by rw [← hkb]; exact sizeHss⟩ : KeyH kb)
    have hok : hOk 3 1 (hId ⟨#[102]⟩) (hSeed ⟨#[102]⟩) (-(d : Int)) = false := by unfold hOk; rw [hpar3, hId_size, hSeed_size, decide_eq_false (by omega : ¬ (0 : Int) ≤ -(d : Int))]; rfl
    have hPb := hid (fun W => show Calls Try.prog 29 #[.agg kb.toArray] W fun e w' => e = .returned (.tuple #[.string ⟨#[]⟩, .int .i64 600]) ∧ Below W.heap.size W w' from by rw [← hkb]; exact hPublic_bad _ _ _ _ _ hok W)
    have hSb := hid (fun W => show Calls Try.prog 30 #[.agg kb.toArray, .string ⟨#[109]⟩] W fun e w' => e = .returned (.tuple #[.string ⟨#[]⟩, .agg zk.toArray, .int .i64 600]) ∧ Below W.heap.size W w' from by rw [← hkb]; exact hSign_bad1 _ _ _ _ _ hok _ W)
    have hLb := hid (fun W => show Calls Try.prog 31 #[.agg kb.toArray] W fun e w' => e = .returned (.int .i64 0) ∧ Below W.heap.size W w' from by rw [← hkb]; exact hLeft_bad _ _ _ _ _ hok W)
    have hset := hid (show kc.set 4 (.int .i64 (-(d : Int))) = kb from by rw [← hkk.out, ← hkb]; rfl)
    clear hok hkb
    have ux := IntWalk.i64_in (-(d : Int)) (by omega)
    have l1 : pb.size + 1 ≤ 9223372036854775807 := by omega
    clear zs zp zP zA zL zB lenP lenL hpb0' hsg0'
    go_wp2_with (first
      | ((with_reducible refine at_slot (some 9) ?_); refine wpList_run rfl (.pointer (some ⟨W5.heap.size, 0, none⟩)) (W5.alloc (.cells zk.toArray 53)) (by kernel_rfl) ?_)
      | ((with_reducible refine at_slot none ?_); refine wpList_store_mid rfl 53 (.tmp 9) (.tmp 34) rfl W5.heap.size 0 kc1.toArray rfl rfl (by exact hsk_there W5 _ hC1.out.len) (by exact hC1.out.size) (by exact hC1.out.one) ?_; generalize hW : World.setCells _ _ _ _ = W6; obtain ⟨-, hb⟩ := hsk_new hC1.out.len hW; have hB6 := hid (below_up hb hB5.out); have hK6 := hid (hK5.out.below hb hK5.out.lt); clear hb hB5 hK5; have hlq := hK6.out.lt; have hlw := hB6.out.size; clear hW)
      | (go_at_call 16; refine (errNum_any _ _).mono ?_; rintro e w' ⟨rfl, rfl⟩)
      | ((with_reducible refine at_slot (some 52) ?_); refine wpList_load_mid rfl 53 (.tmp 5) rfl W2.heap.size 0 rfl kc _ (by exact h_all hK6.out) Try.underlying53 rfl (by exact hC.out.size') ?_)
      | ((with_reducible refine at_slot (some 12) ?_); refine wpList_run rfl (.pointer (some ⟨W6.heap.size, 0, none⟩)) (W6.alloc (.cells zk.toArray 53)) (by kernel_rfl) ?_)
      | ((with_reducible refine at_slot none ?_); refine wpList_store_mid rfl 53 (.tmp 12) (.tmp 52) rfl W6.heap.size 0 kc.toArray rfl rfl (by exact hsk_there W6 _ hC.out.len) (by exact hC.out.size) (by exact hC.out.one) ?_; generalize hW : World.setCells _ _ _ _ = W7; obtain ⟨hN, hb⟩ := hsk_new hC.out.len hW; have hB7 := hid (below_up hb hB6.out); have hK7 := hid (hK6.out.below hb hK6.out.lt); have hM7 := hid hN; clear hb hB6 hK6 hN; have fz := hM7.out.frozen 4; obtain ⟨cx, hcx⟩ := Option.isSome_iff_exists.1 (show (W7.cell? ⟨W6.heap.size, 4, none⟩).isSome = true from by rw [hM7.out.cell]; simp [hC.out.len]); have hMn := hid (show Holds (W7.setCell ⟨W6.heap.size, 4, none⟩ (.int .i64 (-(d : Int)))) W6.heap.size 53 kb from by rw [← hset.out]; exact hM7.out.set 4 _); have hKn := hid (show Holds (W7.setCell ⟨W6.heap.size, 4, none⟩ (.int .i64 (-(d : Int)))) W2.heap.size 53 kc from holds_far (vs := [.int .i64 (-(d : Int))]) hK7.out (by omega) rfl); have hBn := hid (show Below w.heap.size w (W7.setCell ⟨W6.heap.size, 4, none⟩ (.int .i64 (-(d : Int)))) from below_put (vs := [.int .i64 (-(d : Int))]) hB7.out hlw rfl); clear hW)
      | ((with_reducible refine at_slot (some 97) ?_); refine wpList_load_mid rfl 53 (.tmp 12) rfl W6.heap.size 0 rfl kb _ (by exact h_all hMn.out) Try.underlying53 rfl (by exact hCb.out.size') ?_)
      | fail)
    obtain ⟨W8, hWn⟩ : ∃ V, (W7.setCell ⟨W6.heap.size, 4, none⟩ (.int .i64 (-(d : Int)))) = V := ⟨_, rfl⟩
    rw [hWn] at hMn hKn hBn ⊢
    have hM8 := hMn
    have hK8 := hKn
    have hB8 := hBn
    clear hWn hMn hKn hBn fz hcx hM7 hK7 hB7
    refine (hPb.out _).mono ?_
    rintro e W9 ⟨rfl, hb⟩
    have hB9 := hid (below_up hb hB8.out)
    have hK9 := hid (hK8.out.below hb hK8.out.lt)
    have hM9 := hid (hM8.out.below hb hM8.out.lt)
    clear hb hB8 hK8 hM8
    go_wp2_with (first
      | ((with_reducible refine at_slot (some 102) ?_); refine wpList_load_mid rfl 53 (.tmp 12) rfl W6.heap.size 0 rfl kb _ (by exact h_all hM9.out) Try.underlying53 rfl (by exact hCb.out.size') ?_)
      | fail)
    refine (hSb.out _).mono ?_
    rintro e W10 ⟨rfl, hb⟩
    have hB10 := hid (below_up hb hB9.out)
    have hK10 := hid (hK9.out.below hb hK9.out.lt)
    have hM10 := hid (hM9.out.below hb hM9.out.lt)
    clear hb hB9 hK9 hM9
    go_wp2_with (first
      | ((with_reducible refine at_slot (some 16) ?_); refine wpList_run rfl (.pointer (some ⟨W10.heap.size, 0, none⟩)) (W10.alloc (.cells zk.toArray 53)) (by kernel_rfl) ?_)
      | ((with_reducible refine at_slot none ?_); refine wpList_store_mid rfl 53 (.tmp 16) (.tmp 105) rfl W10.heap.size 0 zk.toArray rfl rfl (by exact hsk_there W10 _ hCz.out.len) (by exact hCz.out.size) (by exact hCz.out.one) ?_; generalize hW : World.setCells _ _ _ _ = W11; obtain ⟨-, hb⟩ := hsk_new hCz.out.len hW; have hB11 := hid (below_up hb hB10.out); have hK11 := hid (hK10.out.below hb hK10.out.lt); have hM11 := hid (hM10.out.below hb hM10.out.lt); clear hb hB10 hK10 hM10; clear hW)
      | fail)
    refine (hv.out _).mono ?_
    rintro e W12 ⟨rfl, hb⟩
    have hB12 := hid (below_up hb hB11.out)
    have hK12 := hid (hK11.out.below hb hK11.out.lt)
    have hM12 := hid (hM11.out.below hb hM11.out.lt)
    clear hb hB11 hK11 hM11
    have fz := hK12.out.frozen 4
    obtain ⟨cx, hcx⟩ := Option.isSome_iff_exists.1 (show (W12.cell? ⟨W2.heap.size, 4, none⟩).isSome = true from by rw [hK12.out.cell]; simp [hC.out.len])
    have hKn := hid (show Holds (W12.setCell ⟨W2.heap.size, 4, none⟩ (.int .i64 4)) W2.heap.size 53 k4c from by rw [← hset4.out]; exact hK12.out.set 4 _)
    have hMn := hid (show Holds (W12.setCell ⟨W2.heap.size, 4, none⟩ (.int .i64 4)) W6.heap.size 53 kb from holds_far (vs := [.int .i64 4]) hM12.out (by omega) rfl)
    have hBn := hid (show Below w.heap.size w (W12.setCell ⟨W2.heap.size, 4, none⟩ (.int .i64 4)) from below_put (vs := [.int .i64 4]) hB12.out hle.out rfl)
    go_wp2_with (first
      | ((with_reducible refine at_slot (some 112) ?_); refine wpList_load_mid rfl 53 (.tmp 5) rfl W2.heap.size 0 rfl k4c _ (by exact h_all hKn.out) Try.underlying53 rfl (by exact hC4.out.size') ?_)
      | fail)
    obtain ⟨W13, hWn⟩ : ∃ V, (W12.setCell ⟨W2.heap.size, 4, none⟩ (.int .i64 4)) = V := ⟨_, rfl⟩
    rw [hWn] at hMn hKn hBn ⊢
    have hM13 := hMn
    have hK13 := hKn
    have hB13 := hBn
    clear hWn hMn hKn hBn fz hcx hM12 hK12 hB12
    refine (hSp.out _).mono ?_
    rintro e W14 ⟨rfl, hb⟩
    have hB14 := hid (below_up hb hB13.out)
    have hM14 := hid (hM13.out.below hb hM13.out.lt)
    clear hb hB13 hM13
    go_wp2_with (first
      | ((with_reducible refine at_slot (some 20) ?_); refine wpList_run rfl (.pointer (some ⟨W14.heap.size, 0, none⟩)) (W14.alloc (.cells zk.toArray 53)) (by kernel_rfl) ?_)
      | ((with_reducible refine at_slot none ?_); refine wpList_store_mid rfl 53 (.tmp 20) (.tmp 115) rfl W14.heap.size 0 zk.toArray rfl rfl (by exact hsk_there W14 _ hCz.out.len) (by exact hCz.out.size) (by exact hCz.out.one) ?_; generalize hW : World.setCells _ _ _ _ = W15; obtain ⟨-, hb⟩ := hsk_new hCz.out.len hW; have hB15 := hid (below_up hb hB14.out); have hM15 := hid (hM14.out.below hb hM14.out.lt); clear hb hB14 hM14; clear hW)
      | (go_at_call 16; refine (errNum_any _ _).mono ?_; rintro e w' ⟨rfl, rfl⟩)
      | ((with_reducible refine at_slot (some 131) ?_); refine wpList_load_any_on (by kernel_rfl) 53 (.tmp 12) rfl ⟨W6.heap.size, 0, none⟩ rfl kb _ (by exact h_any hM15.out) Try.underlying53 rfl (by exact hCb.out.size') ?_)
      | fail)
    refine (hLb.out _).mono ?_
    rintro e W16 ⟨rfl, hb⟩
    have hB16 := hid (below_up hb hB15.out)
    clear hb hB15
    go_wp2_with (first
      | (go_at_call 16; refine (errNum_any _ _).mono ?_; rintro e w' ⟨rfl, rfl⟩)
      | fail)
    go_ret
    exact ⟨rfl, hB16.out⟩
  · skip
    obtain ⟨hpb0', hsg0', zp, zs⟩ := hFa.out
    obtain ⟨ns, hns⟩ : ∃ t, ⟨#[0, 0, 0, 2]⟩ ++ sg.extract 4 sg.size = t := ⟨_, rfl⟩
    have hve : hVer pb ⟨#[109]⟩ ns = 600 := by
      exact hVer_no (fun h => by
        have e := beh_not 2 1 (by decide) (by decide) (sg.extract 4 sg.size)
        rw [show be 4 2 = ⟨#[0, 0, 0, 2]⟩ from rfl, hns] at e
        have h0 := h.2.2.1
        rw [e] at h0
        cases h0)
    have znv : ns.size ≤ 140737488351232 := by rw [← hns, ByteArray.size_append, ByteArray.size_extract, zs]; decide
    have hv := hid (fun W => show Calls Try.prog 25 #[.string pb, .string ⟨#[109]⟩, .string ns] W fun e w' => e = .returned (.int .i64 600) ∧ Below W.heap.size W w' from by
      have hz := hVerify_any pb ⟨#[109]⟩ ns (by decide) znv W
      rw [hve] at hz
      exact hz)
    clear hve znv
    obtain ⟨kb, hkb⟩ : ∃ c, keyC 3 (5 + (d : Int)) (hId ⟨#[102]⟩) (hSeed ⟨#[102]⟩) 0 = c := ⟨_, rfl⟩
    have hCb := hid (⟨by rw [← hkb]; rfl, by rw [← hkb]; exact keyC_one _ _ _ _ _, by rw [← hkb]; exact sizeHss, by rw [← hkb]; exact sizeHss⟩ : KeyH kb)
    have hok : hOk 3 (5 + (d : Int)) (hId ⟨#[102]⟩) (hSeed ⟨#[102]⟩) 0 = false := by unfold hOk; rw [hpar3, decide_eq_false (by omega : ¬ (1 ≤ 5 + (d : Int) ∧ 5 + (d : Int) ≤ 5))]; rfl
    have hPb := hid (fun W => show Calls Try.prog 29 #[.agg kb.toArray] W fun e w' => e = .returned (.tuple #[.string ⟨#[]⟩, .int .i64 600]) ∧ Below W.heap.size W w' from by rw [← hkb]; exact hPublic_bad _ _ _ _ _ hok W)
    have hSb := hid (fun W => show Calls Try.prog 30 #[.agg kb.toArray, .string ⟨#[109]⟩] W fun e w' => e = .returned (.tuple #[.string ⟨#[]⟩, .agg zk.toArray, .int .i64 600]) ∧ Below W.heap.size W w' from by rw [← hkb]; exact hSign_bad1 _ _ _ _ _ hok _ W)
    have hLb := hid (fun W => show Calls Try.prog 31 #[.agg kb.toArray] W fun e w' => e = .returned (.int .i64 0) ∧ Below W.heap.size W w' from by rw [← hkb]; exact hLeft_bad _ _ _ _ _ hok W)
    have hset := hid (show kc.set 1 (.int .i64 (5 + (d : Int))) = kb from by rw [← hkk.out, ← hkb]; rfl)
    clear hok hkb
    obtain ⟨ta, hta⟩ : ∃ t, sg.extract 4 sg.size = t := ⟨_, rfl⟩
    rw [hta] at hns
    have lta : ta.size ≤ 5000 := by rw [← hta, ByteArray.size_extract]; omega
    have l1 : 4 + ta.size ≤ 9223372036854775807 := by omega
    have ux := IntWalk.i64_in (5 + (d : Int)) (by omega)
    clear zs zp zP zA zL zB lenP lenL hpb0' hsg0'
    go_wp2_with (first
      | ((with_reducible refine at_slot (some 9) ?_); refine wpList_run rfl (.pointer (some ⟨W5.heap.size, 0, none⟩)) (W5.alloc (.cells zk.toArray 53)) (by kernel_rfl) ?_)
      | ((with_reducible refine at_slot none ?_); refine wpList_store_mid rfl 53 (.tmp 9) (.tmp 34) rfl W5.heap.size 0 kc1.toArray rfl rfl (by exact hsk_there W5 _ hC1.out.len) (by exact hC1.out.size) (by exact hC1.out.one) ?_; generalize hW : World.setCells _ _ _ _ = W6; obtain ⟨-, hb⟩ := hsk_new hC1.out.len hW; have hB6 := hid (below_up hb hB5.out); have hK6 := hid (hK5.out.below hb hK5.out.lt); clear hb hB5 hK5; have hlq := hK6.out.lt; have hlw := hB6.out.size; clear hW)
      | (go_at_call 16; refine (errNum_any _ _).mono ?_; rintro e w' ⟨rfl, rfl⟩)
      | ((with_reducible refine at_slot (some 52) ?_); refine wpList_load_mid rfl 53 (.tmp 5) rfl W2.heap.size 0 rfl kc _ (by exact h_all hK6.out) Try.underlying53 rfl (by exact hC.out.size') ?_)
      | ((with_reducible refine at_slot (some 12) ?_); refine wpList_run rfl (.pointer (some ⟨W6.heap.size, 0, none⟩)) (W6.alloc (.cells zk.toArray 53)) (by kernel_rfl) ?_)
      | ((with_reducible refine at_slot none ?_); refine wpList_store_mid rfl 53 (.tmp 12) (.tmp 52) rfl W6.heap.size 0 kc.toArray rfl rfl (by exact hsk_there W6 _ hC.out.len) (by exact hC.out.size) (by exact hC.out.one) ?_; generalize hW : World.setCells _ _ _ _ = W7; obtain ⟨hN, hb⟩ := hsk_new hC.out.len hW; have hB7 := hid (below_up hb hB6.out); have hK7 := hid (hK6.out.below hb hK6.out.lt); have hM7 := hid hN; clear hb hB6 hK6 hN; have fz := hM7.out.frozen 1; obtain ⟨cx, hcx⟩ := Option.isSome_iff_exists.1 (show (W7.cell? ⟨W6.heap.size, 1, none⟩).isSome = true from by rw [hM7.out.cell]; simp [hC.out.len]); have hMn := hid (show Holds (W7.setCell ⟨W6.heap.size, 1, none⟩ (.int .i64 (5 + (d : Int)))) W6.heap.size 53 kb from by rw [← hset.out]; exact hM7.out.set 1 _); have hKn := hid (show Holds (W7.setCell ⟨W6.heap.size, 1, none⟩ (.int .i64 (5 + (d : Int)))) W2.heap.size 53 kc from holds_far (vs := [.int .i64 (5 + (d : Int))]) hK7.out (by omega) rfl); have hBn := hid (show Below w.heap.size w (W7.setCell ⟨W6.heap.size, 1, none⟩ (.int .i64 (5 + (d : Int)))) from below_put (vs := [.int .i64 (5 + (d : Int))]) hB7.out hlw rfl); clear hW)
      | ((with_reducible refine at_slot (some 97) ?_); refine wpList_load_mid rfl 53 (.tmp 12) rfl W6.heap.size 0 rfl kb _ (by exact h_all hMn.out) Try.underlying53 rfl (by exact hCb.out.size') ?_)
      | fail)
    obtain ⟨W8, hWn⟩ : ∃ V, (W7.setCell ⟨W6.heap.size, 1, none⟩ (.int .i64 (5 + (d : Int)))) = V := ⟨_, rfl⟩
    rw [hWn] at hMn hKn hBn ⊢
    have hM8 := hMn
    have hK8 := hKn
    have hB8 := hBn
    clear hWn hMn hKn hBn fz hcx hM7 hK7 hB7
    refine (hPb.out _).mono ?_
    rintro e W9 ⟨rfl, hb⟩
    have hB9 := hid (below_up hb hB8.out)
    have hK9 := hid (hK8.out.below hb hK8.out.lt)
    have hM9 := hid (hM8.out.below hb hM8.out.lt)
    clear hb hB8 hK8 hM8
    go_wp2_with (first
      | ((with_reducible refine at_slot (some 102) ?_); refine wpList_load_mid rfl 53 (.tmp 12) rfl W6.heap.size 0 rfl kb _ (by exact h_all hM9.out) Try.underlying53 rfl (by exact hCb.out.size') ?_)
      | fail)
    refine (hSb.out _).mono ?_
    rintro e W10 ⟨rfl, hb⟩
    have hB10 := hid (below_up hb hB9.out)
    have hK10 := hid (hK9.out.below hb hK9.out.lt)
    have hM10 := hid (hM9.out.below hb hM9.out.lt)
    clear hb hB9 hK9 hM9
    go_wp2_with (first
      | ((with_reducible refine at_slot (some 16) ?_); refine wpList_run rfl (.pointer (some ⟨W10.heap.size, 0, none⟩)) (W10.alloc (.cells zk.toArray 53)) (by kernel_rfl) ?_)
      | ((with_reducible refine at_slot none ?_); refine wpList_store_mid rfl 53 (.tmp 16) (.tmp 105) rfl W10.heap.size 0 zk.toArray rfl rfl (by exact hsk_there W10 _ hCz.out.len) (by exact hCz.out.size) (by exact hCz.out.one) ?_; generalize hW : World.setCells _ _ _ _ = W11; obtain ⟨-, hb⟩ := hsk_new hCz.out.len hW; have hB11 := hid (below_up hb hB10.out); have hK11 := hid (hK10.out.below hb hK10.out.lt); have hM11 := hid (hM10.out.below hb hM10.out.lt); clear hb hB10 hK10 hM10; clear hW)
      | fail)
    refine (hv.out _).mono ?_
    rintro e W12 ⟨rfl, hb⟩
    have hB12 := hid (below_up hb hB11.out)
    have hK12 := hid (hK11.out.below hb hK11.out.lt)
    have hM12 := hid (hM11.out.below hb hM11.out.lt)
    clear hb hB11 hK11 hM11
    have fz := hK12.out.frozen 4
    obtain ⟨cx, hcx⟩ := Option.isSome_iff_exists.1 (show (W12.cell? ⟨W2.heap.size, 4, none⟩).isSome = true from by rw [hK12.out.cell]; simp [hC.out.len])
    have hKn := hid (show Holds (W12.setCell ⟨W2.heap.size, 4, none⟩ (.int .i64 4)) W2.heap.size 53 k4c from by rw [← hset4.out]; exact hK12.out.set 4 _)
    have hMn := hid (show Holds (W12.setCell ⟨W2.heap.size, 4, none⟩ (.int .i64 4)) W6.heap.size 53 kb from holds_far (vs := [.int .i64 4]) hM12.out (by omega) rfl)
    have hBn := hid (show Below w.heap.size w (W12.setCell ⟨W2.heap.size, 4, none⟩ (.int .i64 4)) from below_put (vs := [.int .i64 4]) hB12.out hle.out rfl)
    go_wp2_with (first
      | ((with_reducible refine at_slot (some 112) ?_); refine wpList_load_mid rfl 53 (.tmp 5) rfl W2.heap.size 0 rfl k4c _ (by exact h_all hKn.out) Try.underlying53 rfl (by exact hC4.out.size') ?_)
      | fail)
    obtain ⟨W13, hWn⟩ : ∃ V, (W12.setCell ⟨W2.heap.size, 4, none⟩ (.int .i64 4)) = V := ⟨_, rfl⟩
    rw [hWn] at hMn hKn hBn ⊢
    have hM13 := hMn
    have hK13 := hKn
    have hB13 := hBn
    clear hWn hMn hKn hBn fz hcx hM12 hK12 hB12
    refine (hSp.out _).mono ?_
    rintro e W14 ⟨rfl, hb⟩
    have hB14 := hid (below_up hb hB13.out)
    have hM14 := hid (hM13.out.below hb hM13.out.lt)
    clear hb hB13 hM13
    go_wp2_with (first
      | ((with_reducible refine at_slot (some 20) ?_); refine wpList_run rfl (.pointer (some ⟨W14.heap.size, 0, none⟩)) (W14.alloc (.cells zk.toArray 53)) (by kernel_rfl) ?_)
      | ((with_reducible refine at_slot none ?_); refine wpList_store_mid rfl 53 (.tmp 20) (.tmp 115) rfl W14.heap.size 0 zk.toArray rfl rfl (by exact hsk_there W14 _ hCz.out.len) (by exact hCz.out.size) (by exact hCz.out.one) ?_; generalize hW : World.setCells _ _ _ _ = W15; obtain ⟨-, hb⟩ := hsk_new hCz.out.len hW; have hB15 := hid (below_up hb hB14.out); have hM15 := hid (hM14.out.below hb hM14.out.lt); clear hb hB14 hM14; clear hW)
      | (go_at_call 16; refine (errNum_any _ _).mono ?_; rintro e w' ⟨rfl, rfl⟩)
      | ((with_reducible refine at_slot (some 131) ?_); refine wpList_load_any_on (by kernel_rfl) 53 (.tmp 12) rfl ⟨W6.heap.size, 0, none⟩ rfl kb _ (by exact h_any hM15.out) Try.underlying53 rfl (by exact hCb.out.size') ?_)
      | fail)
    refine (hLb.out _).mono ?_
    rintro e W16 ⟨rfl, hb⟩
    have hB16 := hid (below_up hb hB15.out)
    clear hb hB15
    go_wp2_with (first
      | (go_at_call 16; refine (errNum_any _ _).mono ?_; rintro e w' ⟨rfl, rfl⟩)
      | fail)
    go_ret
    exact ⟨rfl, hB16.out⟩
  · skip
    obtain ⟨hpb0', hsg0', zp, zs⟩ := hFa.out
    obtain ⟨n5, hn5⟩ : ∃ n, 4500 - d = n := ⟨_, rfl⟩
    obtain ⟨ns, hns⟩ : ∃ t, sg.extract 0 n5 = t := ⟨_, rfl⟩
    have hve : hVer pb ⟨#[109]⟩ ns = 600 := by
      have e := hVer_other P A L (B.extract 0 (2220 - d)) ⟨#[109]⟩ zA zL lenP lenL (by rw [ByteArray.size_extract, zB]; omega)
      have e2 : be 4 1 ++ (A ++ (L ++ B.extract 0 (2220 - d))) = ns := by
        rw [← hns, hsg0']
        refine hb_ext ?_
        have lb : (be 4 1).data.toList.length = 4 := beL_length 4 1
        have la : A.data.toList.length = 2220 := by rw [data_length]; exact zA
        have ll : L.data.toList.length = 56 := by rw [data_length]; exact zL
        rw [cut_mid]
        simp only [data_append]
        rw [cut_mid, List.drop_zero, List.drop_zero, Nat.sub_zero, Nat.sub_zero]
        exact (take3 lb la ll (by omega)).symm
      rw [e2, ← hpb0'] at e
      exact e
    have znv : ns.size ≤ 140737488351232 := by rw [← hns, ByteArray.size_extract, zs]; omega
    have hv := hid (fun W => show Calls Try.prog 25 #[.string pb, .string ⟨#[109]⟩, .string ns] W fun e w' => e = .returned (.int .i64 600) ∧ Below W.heap.size W w' from by
      have hz := hVerify_any pb ⟨#[109]⟩ ns (by decide) znv W
      rw [hve] at hz
      exact hz)
    clear hve znv
    obtain ⟨kb, hkb⟩ : ∃ c, keyC 3 1 (hId ⟨#[102]⟩) ⟨#[120]⟩ 0 = c := ⟨_, rfl⟩
    have hCb := hid (⟨by rw [← hkb]; rfl, by rw [← hkb]; exact keyC_one _ _ _ _ _, by rw [← hkb]; exact sizeHss, by rw [← hkb]; exact sizeHss⟩ : KeyH kb)
    have hok : hOk 3 1 (hId ⟨#[102]⟩) ⟨#[120]⟩ 0 = false := by unfold hOk; rw [hpar3, hId_size]; rfl
    have hPb := hid (fun W => show Calls Try.prog 29 #[.agg kb.toArray] W fun e w' => e = .returned (.tuple #[.string ⟨#[]⟩, .int .i64 600]) ∧ Below W.heap.size W w' from by rw [← hkb]; exact hPublic_bad _ _ _ _ _ hok W)
    have hSb := hid (fun W => show Calls Try.prog 30 #[.agg kb.toArray, .string ⟨#[109]⟩] W fun e w' => e = .returned (.tuple #[.string ⟨#[]⟩, .agg zk.toArray, .int .i64 600]) ∧ Below W.heap.size W w' from by rw [← hkb]; exact hSign_bad1 _ _ _ _ _ hok _ W)
    have hLb := hid (fun W => show Calls Try.prog 31 #[.agg kb.toArray] W fun e w' => e = .returned (.int .i64 0) ∧ Below W.heap.size W w' from by rw [← hkb]; exact hLeft_bad _ _ _ _ _ hok W)
    have hset := hid (show kc.set 3 (.string ⟨#[120]⟩) = kb from by rw [← hkk.out, ← hkb]; rfl)
    clear hok hkb
    have uz := IntWalk.i64_in (n5 : Int) (by omega)
    have uw : (sg.size : Int) - (d : Int) = (n5 : Int) := by omega
    have u5 : (n5 : Int) ≤ (sg.size : Int) := by omega
    have u50 : (0 : Int) ≤ (n5 : Int) := by omega
    clear zs zp zP zA zL zB lenP lenL hpb0' hsg0' hn5
    go_wp2_with (first
      | ((with_reducible refine at_slot (some 9) ?_); refine wpList_run rfl (.pointer (some ⟨W5.heap.size, 0, none⟩)) (W5.alloc (.cells zk.toArray 53)) (by kernel_rfl) ?_)
      | ((with_reducible refine at_slot none ?_); refine wpList_store_mid rfl 53 (.tmp 9) (.tmp 34) rfl W5.heap.size 0 kc1.toArray rfl rfl (by exact hsk_there W5 _ hC1.out.len) (by exact hC1.out.size) (by exact hC1.out.one) ?_; generalize hW : World.setCells _ _ _ _ = W6; obtain ⟨-, hb⟩ := hsk_new hC1.out.len hW; have hB6 := hid (below_up hb hB5.out); have hK6 := hid (hK5.out.below hb hK5.out.lt); clear hb hB5 hK5; have hlq := hK6.out.lt; have hlw := hB6.out.size; clear hW)
      | (go_at_call 16; refine (errNum_any _ _).mono ?_; rintro e w' ⟨rfl, rfl⟩)
      | ((with_reducible refine at_slot (some 52) ?_); refine wpList_load_mid rfl 53 (.tmp 5) rfl W2.heap.size 0 rfl kc _ (by exact h_all hK6.out) Try.underlying53 rfl (by exact hC.out.size') ?_)
      | ((with_reducible refine at_slot (some 12) ?_); refine wpList_run rfl (.pointer (some ⟨W6.heap.size, 0, none⟩)) (W6.alloc (.cells zk.toArray 53)) (by kernel_rfl) ?_)
      | ((with_reducible refine at_slot none ?_); refine wpList_store_mid rfl 53 (.tmp 12) (.tmp 52) rfl W6.heap.size 0 kc.toArray rfl rfl (by exact hsk_there W6 _ hC.out.len) (by exact hC.out.size) (by exact hC.out.one) ?_; generalize hW : World.setCells _ _ _ _ = W7; obtain ⟨hN, hb⟩ := hsk_new hC.out.len hW; have hB7 := hid (below_up hb hB6.out); have hK7 := hid (hK6.out.below hb hK6.out.lt); have hM7 := hid hN; clear hb hB6 hK6 hN; have fz := hM7.out.frozen 3; obtain ⟨cx, hcx⟩ := Option.isSome_iff_exists.1 (show (W7.cell? ⟨W6.heap.size, 3, none⟩).isSome = true from by rw [hM7.out.cell]; simp [hC.out.len]); have hMn := hid (show Holds (W7.setCell ⟨W6.heap.size, 3, none⟩ (.string ⟨#[120]⟩)) W6.heap.size 53 kb from by rw [← hset.out]; exact hM7.out.set 3 _); have hKn := hid (show Holds (W7.setCell ⟨W6.heap.size, 3, none⟩ (.string ⟨#[120]⟩)) W2.heap.size 53 kc from holds_far (vs := [.string ⟨#[120]⟩]) hK7.out (by omega) rfl); have hBn := hid (show Below w.heap.size w (W7.setCell ⟨W6.heap.size, 3, none⟩ (.string ⟨#[120]⟩)) from below_put (vs := [.string ⟨#[120]⟩]) hB7.out hlw rfl); clear hW)
      | ((with_reducible refine at_slot (some 97) ?_); refine wpList_load_mid rfl 53 (.tmp 12) rfl W6.heap.size 0 rfl kb _ (by exact h_all hMn.out) Try.underlying53 rfl (by exact hCb.out.size') ?_)
      | fail)
    obtain ⟨W8, hWn⟩ : ∃ V, (W7.setCell ⟨W6.heap.size, 3, none⟩ (.string ⟨#[120]⟩)) = V := ⟨_, rfl⟩
    rw [hWn] at hMn hKn hBn ⊢
    have hM8 := hMn
    have hK8 := hKn
    have hB8 := hBn
    clear hWn hMn hKn hBn fz hcx hM7 hK7 hB7
    refine (hPb.out _).mono ?_
    rintro e W9 ⟨rfl, hb⟩
    have hB9 := hid (below_up hb hB8.out)
    have hK9 := hid (hK8.out.below hb hK8.out.lt)
    have hM9 := hid (hM8.out.below hb hM8.out.lt)
    clear hb hB8 hK8 hM8
    go_wp2_with (first
      | ((with_reducible refine at_slot (some 102) ?_); refine wpList_load_mid rfl 53 (.tmp 12) rfl W6.heap.size 0 rfl kb _ (by exact h_all hM9.out) Try.underlying53 rfl (by exact hCb.out.size') ?_)
      | fail)
    refine (hSb.out _).mono ?_
    rintro e W10 ⟨rfl, hb⟩
    have hB10 := hid (below_up hb hB9.out)
    have hK10 := hid (hK9.out.below hb hK9.out.lt)
    have hM10 := hid (hM9.out.below hb hM9.out.lt)
    clear hb hB9 hK9 hM9
    go_wp2_with (first
      | ((with_reducible refine at_slot (some 16) ?_); refine wpList_run rfl (.pointer (some ⟨W10.heap.size, 0, none⟩)) (W10.alloc (.cells zk.toArray 53)) (by kernel_rfl) ?_)
      | ((with_reducible refine at_slot none ?_); refine wpList_store_mid rfl 53 (.tmp 16) (.tmp 105) rfl W10.heap.size 0 zk.toArray rfl rfl (by exact hsk_there W10 _ hCz.out.len) (by exact hCz.out.size) (by exact hCz.out.one) ?_; generalize hW : World.setCells _ _ _ _ = W11; obtain ⟨-, hb⟩ := hsk_new hCz.out.len hW; have hB11 := hid (below_up hb hB10.out); have hK11 := hid (hK10.out.below hb hK10.out.lt); have hM11 := hid (hM10.out.below hb hM10.out.lt); clear hb hB10 hK10 hM10; clear hW)
      | fail)
    refine (hv.out _).mono ?_
    rintro e W12 ⟨rfl, hb⟩
    have hB12 := hid (below_up hb hB11.out)
    have hK12 := hid (hK11.out.below hb hK11.out.lt)
    have hM12 := hid (hM11.out.below hb hM11.out.lt)
    clear hb hB11 hK11 hM11
    have fz := hK12.out.frozen 4
    obtain ⟨cx, hcx⟩ := Option.isSome_iff_exists.1 (show (W12.cell? ⟨W2.heap.size, 4, none⟩).isSome = true from by rw [hK12.out.cell]; simp [hC.out.len])
    have hKn := hid (show Holds (W12.setCell ⟨W2.heap.size, 4, none⟩ (.int .i64 4)) W2.heap.size 53 k4c from by rw [← hset4.out]; exact hK12.out.set 4 _)
    have hMn := hid (show Holds (W12.setCell ⟨W2.heap.size, 4, none⟩ (.int .i64 4)) W6.heap.size 53 kb from holds_far (vs := [.int .i64 4]) hM12.out (by omega) rfl)
    have hBn := hid (show Below w.heap.size w (W12.setCell ⟨W2.heap.size, 4, none⟩ (.int .i64 4)) from below_put (vs := [.int .i64 4]) hB12.out hle.out rfl)
    go_wp2_with (first
      | ((with_reducible refine at_slot (some 112) ?_); refine wpList_load_mid rfl 53 (.tmp 5) rfl W2.heap.size 0 rfl k4c _ (by exact h_all hKn.out) Try.underlying53 rfl (by exact hC4.out.size') ?_)
      | fail)
    obtain ⟨W13, hWn⟩ : ∃ V, (W12.setCell ⟨W2.heap.size, 4, none⟩ (.int .i64 4)) = V := ⟨_, rfl⟩
    rw [hWn] at hMn hKn hBn ⊢
    have hM13 := hMn
    have hK13 := hKn
    have hB13 := hBn
    clear hWn hMn hKn hBn fz hcx hM12 hK12 hB12
    refine (hSp.out _).mono ?_
    rintro e W14 ⟨rfl, hb⟩
    have hB14 := hid (below_up hb hB13.out)
    have hM14 := hid (hM13.out.below hb hM13.out.lt)
    clear hb hB13 hM13
    go_wp2_with (first
      | ((with_reducible refine at_slot (some 20) ?_); refine wpList_run rfl (.pointer (some ⟨W14.heap.size, 0, none⟩)) (W14.alloc (.cells zk.toArray 53)) (by kernel_rfl) ?_)
      | ((with_reducible refine at_slot none ?_); refine wpList_store_mid rfl 53 (.tmp 20) (.tmp 115) rfl W14.heap.size 0 zk.toArray rfl rfl (by exact hsk_there W14 _ hCz.out.len) (by exact hCz.out.size) (by exact hCz.out.one) ?_; generalize hW : World.setCells _ _ _ _ = W15; obtain ⟨-, hb⟩ := hsk_new hCz.out.len hW; have hB15 := hid (below_up hb hB14.out); have hM15 := hid (hM14.out.below hb hM14.out.lt); clear hb hB14 hM14; clear hW)
      | (go_at_call 16; refine (errNum_any _ _).mono ?_; rintro e w' ⟨rfl, rfl⟩)
      | ((with_reducible refine at_slot (some 131) ?_); refine wpList_load_any_on (by kernel_rfl) 53 (.tmp 12) rfl ⟨W6.heap.size, 0, none⟩ rfl kb _ (by exact h_any hM15.out) Try.underlying53 rfl (by exact hCb.out.size') ?_)
      | fail)
    refine (hLb.out _).mono ?_
    rintro e W16 ⟨rfl, hb⟩
    have hB16 := hid (below_up hb hB15.out)
    clear hb hB15
    go_wp2_with (first
      | (go_at_call 16; refine (errNum_any _ _).mono ?_; rintro e w' ⟨rfl, rfl⟩)
      | fail)
    go_ret
    exact ⟨rfl, hB16.out⟩
  · skip
    obtain ⟨hpb0', hsg0', zp, zs⟩ := hFa.out
    obtain ⟨ns, hns⟩ : ∃ t, sg.extract 0 4 = t := ⟨_, rfl⟩
    have hve : hVer pb ⟨#[109]⟩ ns = 600 := by
      have e2 : be 4 1 ++ ⟨#[]⟩ = ns := by
        rw [← hns, hsg0']
        refine hb_ext ?_
        rw [cut_mid, data_append, data_append, List.drop_zero]
        have e := List.take_left' (l₂ := (A ++ (L ++ B)).data.toList) (beL_length 4 1)
        exact (List.append_nil _).trans e.symm
      exact hVer_no (fun h => by
        have e := (beh_app 1 (by decide) (⟨#[]⟩ : ByteArray)).2
        rw [e2] at e
        have h0 := h.2.2.2.2
        rw [e] at h0
        have : (⟨#[]⟩ : ByteArray).size = 0 := rfl
        omega)
    have znv : ns.size ≤ 140737488351232 := by rw [← hns, ByteArray.size_extract, zs]; decide
    have hv := hid (fun W => show Calls Try.prog 25 #[.string pb, .string ⟨#[109]⟩, .string ns] W fun e w' => e = .returned (.int .i64 600) ∧ Below W.heap.size W w' from by
      have hz := hVerify_any pb ⟨#[109]⟩ ns (by decide) znv W
      rw [hve] at hz
      exact hz)
    clear hve znv
    obtain ⟨kb, hkb⟩ : ∃ c, keyC 0 0 ⟨#[]⟩ ⟨#[]⟩ 0 = c := ⟨_, rfl⟩
    have hCb := hid (⟨by rw [← hkb]; rfl, by rw [← hkb]; exact keyC_one _ _ _ _ _, by rw [← hkb]; exact sizeHss, by rw [← hkb]; exact sizeHss⟩ : KeyH kb)
    have hok : hOk 0 0 ⟨#[]⟩ ⟨#[]⟩ 0 = false := rfl
    have hPb := hid (fun W => show Calls Try.prog 29 #[.agg kb.toArray] W fun e w' => e = .returned (.tuple #[.string ⟨#[]⟩, .int .i64 600]) ∧ Below W.heap.size W w' from by rw [← hkb]; exact hPublic_bad _ _ _ _ _ hok W)
    have hSb := hid (fun W => show Calls Try.prog 30 #[.agg kb.toArray, .string ⟨#[109]⟩] W fun e w' => e = .returned (.tuple #[.string ⟨#[]⟩, .agg zk.toArray, .int .i64 600]) ∧ Below W.heap.size W w' from by rw [← hkb]; exact hSign_bad1 _ _ _ _ _ hok _ W)
    have hLb := hid (fun W => show Calls Try.prog 31 #[.agg kb.toArray] W fun e w' => e = .returned (.int .i64 0) ∧ Below W.heap.size W w' from by rw [← hkb]; exact hLeft_bad _ _ _ _ _ hok W)
    have hset := hid (show zk = kb from by rw [← hkb]; rfl)
    clear hok hkb
    skip
    clear zs zp zP zA zL zB lenP lenL hpb0' hsg0'
    go_wp2_with (first
      | ((with_reducible refine at_slot (some 9) ?_); refine wpList_run rfl (.pointer (some ⟨W5.heap.size, 0, none⟩)) (W5.alloc (.cells zk.toArray 53)) (by kernel_rfl) ?_)
      | ((with_reducible refine at_slot none ?_); refine wpList_store_mid rfl 53 (.tmp 9) (.tmp 34) rfl W5.heap.size 0 kc1.toArray rfl rfl (by exact hsk_there W5 _ hC1.out.len) (by exact hC1.out.size) (by exact hC1.out.one) ?_; generalize hW : World.setCells _ _ _ _ = W6; obtain ⟨-, hb⟩ := hsk_new hC1.out.len hW; have hB6 := hid (below_up hb hB5.out); have hK6 := hid (hK5.out.below hb hK5.out.lt); clear hb hB5 hK5; have hlq := hK6.out.lt; have hlw := hB6.out.size; clear hW)
      | (go_at_call 16; refine (errNum_any _ _).mono ?_; rintro e w' ⟨rfl, rfl⟩)
      | ((with_reducible refine at_slot (some 52) ?_); refine wpList_load_mid rfl 53 (.tmp 5) rfl W2.heap.size 0 rfl kc _ (by exact h_all hK6.out) Try.underlying53 rfl (by exact hC.out.size') ?_)
      | ((with_reducible refine at_slot (some 12) ?_); refine wpList_run rfl (.pointer (some ⟨W6.heap.size, 0, none⟩)) (W6.alloc (.cells zk.toArray 53)) (by kernel_rfl) ?_)
      | ((with_reducible refine at_slot none ?_); refine wpList_store_mid rfl 53 (.tmp 12) (.tmp 52) rfl W6.heap.size 0 kc.toArray rfl rfl (by exact hsk_there W6 _ hC.out.len) (by exact hC.out.size) (by exact hC.out.one) ?_; generalize hW : World.setCells _ _ _ _ = W7; obtain ⟨hN, hb⟩ := hsk_new hC.out.len hW; have hB7 := hid (below_up hb hB6.out); have hK7 := hid (hK6.out.below hb hK6.out.lt); have hM7 := hid hN; clear hb hB6 hK6 hN; clear hW)
      | ((with_reducible refine at_slot (some 93) ?_); refine wpList_run rfl (.agg zk.toArray) W7 (by kernel_rfl) ?_)
      | ((with_reducible refine at_slot none ?_); refine wpList_store_mid rfl 53 (.tmp 12) (.tmp 93) rfl W6.heap.size 0 zk.toArray rfl rfl (by exact hM7.out.there 0 _ (by rw [hC.out.len]; exact Nat.le_refl 5)) (by exact hCz.out.size) (by exact hCz.out.one) ?_; generalize hW : World.setCells _ _ _ _ = W8; have hM8 := hid (show Holds W8 W6.heap.size 53 kb from by rw [← hset.out]; exact hM7.out.over (by rw [hC.out.len]; rfl) hW); have hK8 := hid (holds_far hK7.out (by omega : W2.heap.size ≠ W6.heap.size) hW); have hB8 := hid (below_put hB7.out hlw hW); clear hW hM7 hK7 hB7)
      | ((with_reducible refine at_slot (some 97) ?_); refine wpList_load_mid rfl 53 (.tmp 12) rfl W6.heap.size 0 rfl kb _ (by exact h_all hM8.out) Try.underlying53 rfl (by exact hCb.out.size') ?_)
      | fail)
    refine (hPb.out _).mono ?_
    rintro e W9 ⟨rfl, hb⟩
    have hB9 := hid (below_up hb hB8.out)
    have hK9 := hid (hK8.out.below hb hK8.out.lt)
    have hM9 := hid (hM8.out.below hb hM8.out.lt)
    clear hb hB8 hK8 hM8
    go_wp2_with (first
      | ((with_reducible refine at_slot (some 102) ?_); refine wpList_load_mid rfl 53 (.tmp 12) rfl W6.heap.size 0 rfl kb _ (by exact h_all hM9.out) Try.underlying53 rfl (by exact hCb.out.size') ?_)
      | fail)
    refine (hSb.out _).mono ?_
    rintro e W10 ⟨rfl, hb⟩
    have hB10 := hid (below_up hb hB9.out)
    have hK10 := hid (hK9.out.below hb hK9.out.lt)
    have hM10 := hid (hM9.out.below hb hM9.out.lt)
    clear hb hB9 hK9 hM9
    go_wp2_with (first
      | ((with_reducible refine at_slot (some 16) ?_); refine wpList_run rfl (.pointer (some ⟨W10.heap.size, 0, none⟩)) (W10.alloc (.cells zk.toArray 53)) (by kernel_rfl) ?_)
      | ((with_reducible refine at_slot none ?_); refine wpList_store_mid rfl 53 (.tmp 16) (.tmp 105) rfl W10.heap.size 0 zk.toArray rfl rfl (by exact hsk_there W10 _ hCz.out.len) (by exact hCz.out.size) (by exact hCz.out.one) ?_; generalize hW : World.setCells _ _ _ _ = W11; obtain ⟨-, hb⟩ := hsk_new hCz.out.len hW; have hB11 := hid (below_up hb hB10.out); have hK11 := hid (hK10.out.below hb hK10.out.lt); have hM11 := hid (hM10.out.below hb hM10.out.lt); clear hb hB10 hK10 hM10; clear hW)
      | fail)
    refine (hv.out _).mono ?_
    rintro e W12 ⟨rfl, hb⟩
    have hB12 := hid (below_up hb hB11.out)
    have hK12 := hid (hK11.out.below hb hK11.out.lt)
    have hM12 := hid (hM11.out.below hb hM11.out.lt)
    clear hb hB11 hK11 hM11
    have fz := hK12.out.frozen 4
    obtain ⟨cx, hcx⟩ := Option.isSome_iff_exists.1 (show (W12.cell? ⟨W2.heap.size, 4, none⟩).isSome = true from by rw [hK12.out.cell]; simp [hC.out.len])
    have hKn := hid (show Holds (W12.setCell ⟨W2.heap.size, 4, none⟩ (.int .i64 4)) W2.heap.size 53 k4c from by rw [← hset4.out]; exact hK12.out.set 4 _)
    have hMn := hid (show Holds (W12.setCell ⟨W2.heap.size, 4, none⟩ (.int .i64 4)) W6.heap.size 53 kb from holds_far (vs := [.int .i64 4]) hM12.out (by omega) rfl)
    have hBn := hid (show Below w.heap.size w (W12.setCell ⟨W2.heap.size, 4, none⟩ (.int .i64 4)) from below_put (vs := [.int .i64 4]) hB12.out hle.out rfl)
    go_wp2_with (first
      | ((with_reducible refine at_slot (some 112) ?_); refine wpList_load_mid rfl 53 (.tmp 5) rfl W2.heap.size 0 rfl k4c _ (by exact h_all hKn.out) Try.underlying53 rfl (by exact hC4.out.size') ?_)
      | fail)
    obtain ⟨W13, hWn⟩ : ∃ V, (W12.setCell ⟨W2.heap.size, 4, none⟩ (.int .i64 4)) = V := ⟨_, rfl⟩
    rw [hWn] at hMn hKn hBn ⊢
    have hM13 := hMn
    have hK13 := hKn
    have hB13 := hBn
    clear hWn hMn hKn hBn fz hcx hM12 hK12 hB12
    refine (hSp.out _).mono ?_
    rintro e W14 ⟨rfl, hb⟩
    have hB14 := hid (below_up hb hB13.out)
    have hM14 := hid (hM13.out.below hb hM13.out.lt)
    clear hb hB13 hM13
    go_wp2_with (first
      | ((with_reducible refine at_slot (some 20) ?_); refine wpList_run rfl (.pointer (some ⟨W14.heap.size, 0, none⟩)) (W14.alloc (.cells zk.toArray 53)) (by kernel_rfl) ?_)
      | ((with_reducible refine at_slot none ?_); refine wpList_store_mid rfl 53 (.tmp 20) (.tmp 115) rfl W14.heap.size 0 zk.toArray rfl rfl (by exact hsk_there W14 _ hCz.out.len) (by exact hCz.out.size) (by exact hCz.out.one) ?_; generalize hW : World.setCells _ _ _ _ = W15; obtain ⟨-, hb⟩ := hsk_new hCz.out.len hW; have hB15 := hid (below_up hb hB14.out); have hM15 := hid (hM14.out.below hb hM14.out.lt); clear hb hB14 hM14; clear hW)
      | (go_at_call 16; refine (errNum_any _ _).mono ?_; rintro e w' ⟨rfl, rfl⟩)
      | ((with_reducible refine at_slot (some 131) ?_); refine wpList_load_any_on (by kernel_rfl) 53 (.tmp 12) rfl ⟨W6.heap.size, 0, none⟩ rfl kb _ (by exact h_any hM15.out) Try.underlying53 rfl (by exact hCb.out.size') ?_)
      | fail)
    refine (hLb.out _).mono ?_
    rintro e W16 ⟨rfl, hb⟩
    have hB16 := hid (below_up hb hB15.out)
    clear hb hB15
    go_wp2_with (first
      | (go_at_call 16; refine (errNum_any _ _).mono ?_; rintro e w' ⟨rfl, rfl⟩)
      | fail)
    go_ret
    exact ⟨rfl, hB16.out⟩
  · skip
    obtain ⟨hpb0', hsg0', zp, zs⟩ := hFa.out
    obtain ⟨ns, hns⟩ : ∃ t, sg ++ ⟨#[97]⟩ = t := ⟨_, rfl⟩
    have hve : hVer pb ⟨#[109]⟩ ns = 600 := by
      have e := hVer_other P A L (B ++ ⟨#[97]⟩) ⟨#[109]⟩ zA zL lenP lenL (by rw [ByteArray.size_append, zB]; decide)
      have e2 : be 4 1 ++ (A ++ (L ++ (B ++ ⟨#[97]⟩))) = ns := by
        rw [← hns, hsg0']
        refine hb_ext ?_
        simp only [data_append, List.append_assoc]
      rw [e2, ← hpb0'] at e
      exact e
    have znv : ns.size ≤ 140737488351232 := by rw [← hns, ByteArray.size_append, zs]; decide
    have hv := hid (fun W => show Calls Try.prog 25 #[.string pb, .string ⟨#[109]⟩, .string ns] W fun e w' => e = .returned (.int .i64 600) ∧ Below W.heap.size W w' from by
      have hz := hVerify_any pb ⟨#[109]⟩ ns (by decide) znv W
      rw [hve] at hz
      exact hz)
    clear hve znv
    obtain ⟨kb, hkb⟩ : ∃ c, keyC 0 1 (hId ⟨#[102]⟩) (hSeed ⟨#[102]⟩) 0 = c := ⟨_, rfl⟩
    have hCb := hid (⟨by rw [← hkb]; rfl, by rw [← hkb]; exact keyC_one _ _ _ _ _, by rw [← hkb]; exact sizeHss, by rw [← hkb]; exact sizeHss⟩ : KeyH kb)
    have hok : hOk 0 1 (hId ⟨#[102]⟩) (hSeed ⟨#[102]⟩) 0 = false := rfl
    have hPb := hid (fun W => show Calls Try.prog 29 #[.agg kb.toArray] W fun e w' => e = .returned (.tuple #[.string ⟨#[]⟩, .int .i64 600]) ∧ Below W.heap.size W w' from by rw [← hkb]; exact hPublic_bad _ _ _ _ _ hok W)
    have hSb := hid (fun W => show Calls Try.prog 30 #[.agg kb.toArray, .string ⟨#[109]⟩] W fun e w' => e = .returned (.tuple #[.string ⟨#[]⟩, .agg zk.toArray, .int .i64 600]) ∧ Below W.heap.size W w' from by rw [← hkb]; exact hSign_bad1 _ _ _ _ _ hok _ W)
    have hLb := hid (fun W => show Calls Try.prog 31 #[.agg kb.toArray] W fun e w' => e = .returned (.int .i64 0) ∧ Below W.heap.size W w' from by rw [← hkb]; exact hLeft_bad _ _ _ _ _ hok W)
    have hset := hid (show kc.set 0 (.int .i64 0) = kb from by rw [← hkk.out, ← hkb]; rfl)
    clear hok hkb
    have l1 : sg.size + 1 ≤ 9223372036854775807 := by omega
    clear zs zp zP zA zL zB lenP lenL hpb0' hsg0'
    go_wp2_with (first
      | ((with_reducible refine at_slot (some 9) ?_); refine wpList_run rfl (.pointer (some ⟨W5.heap.size, 0, none⟩)) (W5.alloc (.cells zk.toArray 53)) (by kernel_rfl) ?_)
      | ((with_reducible refine at_slot none ?_); refine wpList_store_mid rfl 53 (.tmp 9) (.tmp 34) rfl W5.heap.size 0 kc1.toArray rfl rfl (by exact hsk_there W5 _ hC1.out.len) (by exact hC1.out.size) (by exact hC1.out.one) ?_; generalize hW : World.setCells _ _ _ _ = W6; obtain ⟨-, hb⟩ := hsk_new hC1.out.len hW; have hB6 := hid (below_up hb hB5.out); have hK6 := hid (hK5.out.below hb hK5.out.lt); clear hb hB5 hK5; have hlq := hK6.out.lt; have hlw := hB6.out.size; clear hW)
      | (go_at_call 16; refine (errNum_any _ _).mono ?_; rintro e w' ⟨rfl, rfl⟩)
      | ((with_reducible refine at_slot (some 52) ?_); refine wpList_load_mid rfl 53 (.tmp 5) rfl W2.heap.size 0 rfl kc _ (by exact h_all hK6.out) Try.underlying53 rfl (by exact hC.out.size') ?_)
      | ((with_reducible refine at_slot (some 12) ?_); refine wpList_run rfl (.pointer (some ⟨W6.heap.size, 0, none⟩)) (W6.alloc (.cells zk.toArray 53)) (by kernel_rfl) ?_)
      | ((with_reducible refine at_slot none ?_); refine wpList_store_mid rfl 53 (.tmp 12) (.tmp 52) rfl W6.heap.size 0 kc.toArray rfl rfl (by exact hsk_there W6 _ hC.out.len) (by exact hC.out.size) (by exact hC.out.one) ?_; generalize hW : World.setCells _ _ _ _ = W7; obtain ⟨hN, hb⟩ := hsk_new hC.out.len hW; have hB7 := hid (below_up hb hB6.out); have hK7 := hid (hK6.out.below hb hK6.out.lt); have hM7 := hid hN; clear hb hB6 hK6 hN; have fz := hM7.out.frozen 0; obtain ⟨cx, hcx⟩ := Option.isSome_iff_exists.1 (show (W7.cell? ⟨W6.heap.size, 0, none⟩).isSome = true from by rw [hM7.out.cell]; simp [hC.out.len]); have hMn := hid (show Holds (W7.setCell ⟨W6.heap.size, 0, none⟩ (.int .i64 0)) W6.heap.size 53 kb from by rw [← hset.out]; exact hM7.out.set 0 _); have hKn := hid (show Holds (W7.setCell ⟨W6.heap.size, 0, none⟩ (.int .i64 0)) W2.heap.size 53 kc from holds_far (vs := [.int .i64 0]) hK7.out (by omega) rfl); have hBn := hid (show Below w.heap.size w (W7.setCell ⟨W6.heap.size, 0, none⟩ (.int .i64 0)) from below_put (vs := [.int .i64 0]) hB7.out hlw rfl); clear hW)
      | ((with_reducible refine at_slot (some 97) ?_); refine wpList_load_mid rfl 53 (.tmp 12) rfl W6.heap.size 0 rfl kb _ (by exact h_all hMn.out) Try.underlying53 rfl (by exact hCb.out.size') ?_)
      | fail)
    obtain ⟨W8, hWn⟩ : ∃ V, (W7.setCell ⟨W6.heap.size, 0, none⟩ (.int .i64 0)) = V := ⟨_, rfl⟩
    rw [hWn] at hMn hKn hBn ⊢
    have hM8 := hMn
    have hK8 := hKn
    have hB8 := hBn
    clear hWn hMn hKn hBn fz hcx hM7 hK7 hB7
    refine (hPb.out _).mono ?_
    rintro e W9 ⟨rfl, hb⟩
    have hB9 := hid (below_up hb hB8.out)
    have hK9 := hid (hK8.out.below hb hK8.out.lt)
    have hM9 := hid (hM8.out.below hb hM8.out.lt)
    clear hb hB8 hK8 hM8
    go_wp2_with (first
      | ((with_reducible refine at_slot (some 102) ?_); refine wpList_load_mid rfl 53 (.tmp 12) rfl W6.heap.size 0 rfl kb _ (by exact h_all hM9.out) Try.underlying53 rfl (by exact hCb.out.size') ?_)
      | fail)
    refine (hSb.out _).mono ?_
    rintro e W10 ⟨rfl, hb⟩
    have hB10 := hid (below_up hb hB9.out)
    have hK10 := hid (hK9.out.below hb hK9.out.lt)
    have hM10 := hid (hM9.out.below hb hM9.out.lt)
    clear hb hB9 hK9 hM9
    go_wp2_with (first
      | ((with_reducible refine at_slot (some 16) ?_); refine wpList_run rfl (.pointer (some ⟨W10.heap.size, 0, none⟩)) (W10.alloc (.cells zk.toArray 53)) (by kernel_rfl) ?_)
      | ((with_reducible refine at_slot none ?_); refine wpList_store_mid rfl 53 (.tmp 16) (.tmp 105) rfl W10.heap.size 0 zk.toArray rfl rfl (by exact hsk_there W10 _ hCz.out.len) (by exact hCz.out.size) (by exact hCz.out.one) ?_; generalize hW : World.setCells _ _ _ _ = W11; obtain ⟨-, hb⟩ := hsk_new hCz.out.len hW; have hB11 := hid (below_up hb hB10.out); have hK11 := hid (hK10.out.below hb hK10.out.lt); have hM11 := hid (hM10.out.below hb hM10.out.lt); clear hb hB10 hK10 hM10; clear hW)
      | fail)
    refine (hv.out _).mono ?_
    rintro e W12 ⟨rfl, hb⟩
    have hB12 := hid (below_up hb hB11.out)
    have hK12 := hid (hK11.out.below hb hK11.out.lt)
    have hM12 := hid (hM11.out.below hb hM11.out.lt)
    clear hb hB11 hK11 hM11
    have fz := hK12.out.frozen 4
    obtain ⟨cx, hcx⟩ := Option.isSome_iff_exists.1 (show (W12.cell? ⟨W2.heap.size, 4, none⟩).isSome = true from by rw [hK12.out.cell]; simp [hC.out.len])
    have hKn := hid (show Holds (W12.setCell ⟨W2.heap.size, 4, none⟩ (.int .i64 4)) W2.heap.size 53 k4c from by rw [← hset4.out]; exact hK12.out.set 4 _)
    have hMn := hid (show Holds (W12.setCell ⟨W2.heap.size, 4, none⟩ (.int .i64 4)) W6.heap.size 53 kb from holds_far (vs := [.int .i64 4]) hM12.out (by omega) rfl)
    have hBn := hid (show Below w.heap.size w (W12.setCell ⟨W2.heap.size, 4, none⟩ (.int .i64 4)) from below_put (vs := [.int .i64 4]) hB12.out hle.out rfl)
    go_wp2_with (first
      | ((with_reducible refine at_slot (some 112) ?_); refine wpList_load_mid rfl 53 (.tmp 5) rfl W2.heap.size 0 rfl k4c _ (by exact h_all hKn.out) Try.underlying53 rfl (by exact hC4.out.size') ?_)
      | fail)
    obtain ⟨W13, hWn⟩ : ∃ V, (W12.setCell ⟨W2.heap.size, 4, none⟩ (.int .i64 4)) = V := ⟨_, rfl⟩
    rw [hWn] at hMn hKn hBn ⊢
    have hM13 := hMn
    have hK13 := hKn
    have hB13 := hBn
    clear hWn hMn hKn hBn fz hcx hM12 hK12 hB12
    refine (hSp.out _).mono ?_
    rintro e W14 ⟨rfl, hb⟩
    have hB14 := hid (below_up hb hB13.out)
    have hM14 := hid (hM13.out.below hb hM13.out.lt)
    clear hb hB13 hM13
    go_wp2_with (first
      | ((with_reducible refine at_slot (some 20) ?_); refine wpList_run rfl (.pointer (some ⟨W14.heap.size, 0, none⟩)) (W14.alloc (.cells zk.toArray 53)) (by kernel_rfl) ?_)
      | ((with_reducible refine at_slot none ?_); refine wpList_store_mid rfl 53 (.tmp 20) (.tmp 115) rfl W14.heap.size 0 zk.toArray rfl rfl (by exact hsk_there W14 _ hCz.out.len) (by exact hCz.out.size) (by exact hCz.out.one) ?_; generalize hW : World.setCells _ _ _ _ = W15; obtain ⟨-, hb⟩ := hsk_new hCz.out.len hW; have hB15 := hid (below_up hb hB14.out); have hM15 := hid (hM14.out.below hb hM14.out.lt); clear hb hB14 hM14; clear hW)
      | (go_at_call 16; refine (errNum_any _ _).mono ?_; rintro e w' ⟨rfl, rfl⟩)
      | ((with_reducible refine at_slot (some 131) ?_); refine wpList_load_any_on (by kernel_rfl) 53 (.tmp 12) rfl ⟨W6.heap.size, 0, none⟩ rfl kb _ (by exact h_any hM15.out) Try.underlying53 rfl (by exact hCb.out.size') ?_)
      | fail)
    refine (hLb.out _).mono ?_
    rintro e W16 ⟨rfl, hb⟩
    have hB16 := hid (below_up hb hB15.out)
    clear hb hB15
    go_wp2_with (first
      | (go_at_call 16; refine (errNum_any _ _).mono ?_; rintro e w' ⟨rfl, rfl⟩)
      | fail)
    go_ret
    exact ⟨rfl, hB16.out⟩

end Go.Proofs.Ytmfajekfipfjpaa
