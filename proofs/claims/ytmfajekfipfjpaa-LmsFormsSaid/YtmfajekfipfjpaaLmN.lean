/- Layer 5: LmsForms. -/
import Derived.Test.YtmfajekfipfjpaaLmKe
import Derived.Test.YtmfajekfipfjpaaLoadOn
import Derived.Test.YtmfajekfipfjpaaArith
namespace Go.Proofs.Ytmfajekfipfjpaa
open Go.RowKit
open Go.Lib (strCells strCells_length strCells_oneCell)
attribute [local irreducible] Sha.compress Sha.blocks Sha.sha Sha.pad

/-- The two texts of the statement's key, by their first bytes. -/
theorem fPub : ∃ R : List UInt8, R.length = 48 ∧ (kPub ⟨#[102]⟩ 1).data.toList = [240, 0, 0, 1, 0, 0, 0, 3] ++ R := by
  refine ⟨(kId ⟨#[102]⟩).data.toList ++ Lms.node (kId ⟨#[102]⟩).data.toList (Lms.keys Ots.o4 (kId ⟨#[102]⟩).data.toList (kSeed ⟨#[102]⟩).data.toList 1) 1 1, by rw [List.length_append, data_length, kId_size, Lms.node_len], ?_⟩
  unfold kPub pubT Lms.pubL
  rw [txt_list, List.append_assoc]
  rfl
theorem fSig : ∃ R : List UInt8, R.length = 2216 ∧ (kSig ⟨#[102]⟩ 1 0 ⟨#[109]⟩).data.toList = [0, 0, 0, 0] ++ R := by
  have hz := kSig_size ⟨#[102]⟩ 1 0 ⟨#[109]⟩
  rw [← data_length] at hz
  unfold kSig sigT Lms.signL at hz ⊢
  rw [txt_list] at hz ⊢
  rw [List.append_assoc, List.append_assoc] at hz ⊢
  refine ⟨_, ?_, rfl⟩
  rw [List.length_append, beL_length] at hz
  omega
/-- A signature of another length is none. -/
theorem verify_len {pb msg s : List UInt8} {h : Nat} {o : Ots.Par} (h1 : pb.length = 56) (h2 : Lms.heightOf (numL (pb.take 4)) = some h) (h3 : Ots.par (numL ((pb.drop 4).take 4) : Int) = some o) (h4 : s.length ≠ 44 + 32 * o.p + 32 * h) : Lms.verify pb msg s = 500 := by
  unfold Lms.verify
  rw [if_pos h1, h2, h3]
  exact if_neg (fun hf => h4 hf.1)
theorem verify_big {pb msg s : List UInt8} {h : Nat} {o : Ots.Par} (h1 : pb.length = 56) (h2 : Lms.heightOf (numL (pb.take 4)) = some h) (h3 : Ots.par (numL ((pb.drop 4).take 4) : Int) = some o) (h4 : 2 ^ h ≤ numL (s.take 4)) : Lms.verify pb msg s = 500 := by
  unfold Lms.verify
  rw [if_pos h1, h2, h3]
  exact if_neg (fun hf => by have := hf.2.2.1; omega)
theorem hgt1 : Lms.heightOf (numL [240, 0, 0, 1]) = some 1 := by decide +kernel
theorem hgt2 : Lms.heightOf (numL [240, 0, 0, 2]) = some 2 := by decide +kernel
theorem cut_to (s : ByteArray) (a : Nat) : (s.extract 0 a).data.toList = s.data.toList.take a := cut_list s a
set_option maxRecDepth 100000 in
set_option maxHeartbeats 4000000 in
theorem LmsForms_law {w : World} (wh x : Int) :
    Calls Try.prog 7 #[.int .i64 wh, .int .i64 x] w fun e w' => e = .returned (.bool true) ∧ Below w.heap.size w w' := by
  obtain ⟨k8, hk8, hand1, -⟩ := and_mask x 3 (by decide) 7 rfl
  have hk8' : k8 < 8 := hk8
  obtain ⟨d, hd⟩ : ∃ d, 1 + k8 = d := ⟨_, rfl⟩
  have hd1 : 1 ≤ d := by omega
  have hd8 : d ≤ 8 := by omega
  have hdi : 1 + (k8 : Int) = (d : Int) := by omega
  have ud := IntWalk.i64_in (d : Int) (by omega)
  clear hk8 hk8' hd
  obtain ⟨m, hm6, hme⟩ : ∃ m : Nat, m < 6 ∧ (IntKind.u64.wrap wh).tmod 6 = (m : Int) := by
    have e : IntKind.u64.wrap wh = wh % 18446744073709551616 := rfl
    refine ⟨((wh % 18446744073709551616) % 6).toNat, by omega, ?_⟩
    rw [e, Int.tmod_eq_emod_of_nonneg (by omega)]
    omega
  obtain ⟨R, hRl, hR⟩ := fPub
  obtain ⟨Q, hQl, hQ⟩ := fSig
  obtain ⟨kc, hkc⟩ : ∃ c, kCells ⟨#[102]⟩ 1 0 = c := ⟨_, rfl⟩
  obtain ⟨kc1, hkc1⟩ : ∃ c, kCells ⟨#[102]⟩ 1 1 = c := ⟨_, rfl⟩
  obtain ⟨pb, hpb⟩ : ∃ c, kPub ⟨#[102]⟩ 1 = c := ⟨_, rfl⟩
  obtain ⟨sg, hsg⟩ : ∃ c, kSig ⟨#[102]⟩ 1 0 ⟨#[109]⟩ = c := ⟨_, rfl⟩
  have hKey := hid (fun W => show Calls Try.prog 20 #[.string ⟨#[102]⟩, .int .i64 0, .int .i64 0] W fun e w' => e = .returned (.agg kc.toArray) ∧ Below W.heap.size W w' from by rw [← hkc]; exact Key_any ⟨#[102]⟩ 0 (by decide) W)
  have hPub := hid (fun W => kPublic ⟨#[102]⟩ 1 0 (.inl rfl) (by decide) W)
  have hSg := hid (fun W => kSign ⟨#[102]⟩ 1 0 (.inl rfl) (by decide) ⟨#[109]⟩ (by decide) W)
  rw [hkc, hpb] at hPub
  rw [hkc, hsg, hkc1] at hSg
  have hC := hid (hkc ▸ kKey ⟨#[102]⟩ 1 0 : KeyC kc)
  have hC1 := hid (hkc1 ▸ kKey ⟨#[102]⟩ 1 1 : KeyC kc1)
  have hCz := hid zKey
  have zp : pb.size = 56 := by rw [← hpb, kPub_size]
  have zs : sg.size = 2220 := by rw [← hsg, kSig_size]
  rw [hpb] at hR
  rw [hsg] at hQ
  have zpi : ((pb.size : Int) == 56) = true := by rw [zp]; rfl
  have zsi : ¬ (sg.size : Int) < 100 := by omega
  have zsk : decide ((sg.size : Int) < 100) = false := decide_eq_false zsi
  have zpj : ((pb.size : Int) != 56) = false := by rw [zp]; rfl
  have q7 : (7 : Int) ≤ (pb.size : Int) := by omega
  have q8 : (8 : Int) ≤ (pb.size : Int) := by omega
  have q3 : (3 : Int) ≤ (pb.size : Int) := by omega
  have q4 : (4 : Int) ≤ (pb.size : Int) := by omega
  have q55 : (55 : Int) ≤ (pb.size : Int) := by omega
  have r3 : (3 : Int) ≤ (sg.size : Int) := by omega
  have r4 : (4 : Int) ≤ (sg.size : Int) := by omega
  have hpp := hid zp
  have hss := hid zs
  have hRR := hid hR
  have hQQ := hid hQ
  have hkk := hid hkc
  clear hpb hsg hkc1 zp zs hR hQ hkc
  go_enter Try.func7, Try.ntmps7
  go_wp2_with fail
  refine (awake5_any _).mono ?_
  rintro e W1 ⟨rfl, hb⟩
  have hB1 := hid hb
  clear hb
  go_wp2_with fail
  refine (hKey.out _).mono ?_
  rintro e W2 ⟨rfl, hb⟩
  have hB2 := hid (below_up hb hB1.out)
  clear hb hB1
  go_wp2_with (first
    | ((with_reducible refine at_slot (some 5) ?_); refine wpList_run rfl (.pointer (some ⟨W2.heap.size, 0, none⟩)) (W2.alloc (.cells zk.toArray 23)) (by kernel_rfl) ?_)
    | ((with_reducible refine at_slot none ?_); refine wpList_store_mid rfl 23 (.tmp 5) (.tmp 21) rfl W2.heap.size 0 kc.toArray rfl rfl (by exact key_there W2 _ hC.out.len) (by exact hC.out.size) (by exact hC.out.one) ?_; generalize hW : World.setCells _ _ _ _ = W3; obtain ⟨hN, hb⟩ := key_new hC.out.len hW; have hB3 := hid (below_up hb hB2.out); have hK3 := hid hN; clear hb hB2 hN; clear hW)
    | ((with_reducible refine at_slot (some 23) ?_); refine wpList_load_mid rfl 23 (.tmp 5) rfl W2.heap.size 0 rfl kc _ (by exact h_all hK3.out) Try.underlying23 rfl (by exact hC.out.size') ?_)
    | fail)
  refine (hPub.out _).mono ?_
  rintro e W4 ⟨rfl, hb⟩
  have hB4 := hid (below_up hb hB3.out)
  have hK4 := hid (hK3.out.below hb hK3.out.lt)
  clear hb hB3 hK3
  go_wp2_with (first
    | ((with_reducible refine at_slot (some 28) ?_); refine wpList_load_mid rfl 23 (.tmp 5) rfl W2.heap.size 0 rfl kc _ (by exact h_all hK4.out) Try.underlying23 rfl (by exact hC.out.size') ?_)
    | fail)
  refine (hSg.out _).mono ?_
  rintro e W5 ⟨rfl, hb⟩
  have hB5 := hid (below_up hb hB4.out)
  have hK5 := hid (hK4.out.below hb hK4.out.lt)
  clear hb hB4 hK4
  rcases (show m = 0 ∨ m = 1 ∨ m = 2 ∨ m = 3 ∨ m = 4 ∨ m = 5 from by omega) with rfl | rfl | rfl | rfl | rfl | rfl
  · skip
    obtain ⟨np, hnp⟩ : ∃ t, pb.extract 0 7 ++ ⟨#[4]⟩ ++ pb.extract 8 pb.size = t := ⟨_, rfl⟩
    have hve : Lms.verify np.data.toList (⟨#[109]⟩ : ByteArray).data.toList sg.data.toList = 500 := by
      have hl : np.data.toList = [240, 0, 0, 1, 0, 0, 0] ++ [4] ++ R := by
        rw [← hnp, data_append, data_append, cut_to, cut_front pb 8 (by rw [hpp.out]; decide), hRR.out]
        rfl
      exact verify_len (h := 1) (o := ⟨8, 34, 0⟩) (by rw [hl]; simp [hRl]) (by rw [show np.data.toList.take 4 = [240, 0, 0, 1] from by rw [hl]; rfl]; exact hgt1) (by rw [hl]; rfl) (by rw [data_length, hss.out]; show 2220 ≠ 44 + 32 * 34 + 32 * 1; omega)
    have znv : sg.size ≤ 140737488351232 := by rw [hss.out]; omega
    have hv := hid (fun W => show Calls Try.prog 18 #[.string np, .string ⟨#[109]⟩, .string sg] W fun e w' => e = .returned (.int .i64 500) ∧ Below W.heap.size W w' from by
      have hz := Verify_any np ⟨#[109]⟩ sg (by decide) znv W
      rw [hve] at hz
      exact hz)
    clear hve znv
    obtain ⟨kb, hkb⟩ : ∃ c, keyC (4 + (d : Int)) 1 (kId ⟨#[102]⟩) (kSeed ⟨#[102]⟩) 0 = c := ⟨_, rfl⟩
    have hset := hid (show kc.set 0 (.int .i64 (4 + (d : Int))) = kb from by rw [← hkk.out, ← hkb]; rfl)
    have hCb := hid (⟨by rw [← hkb]; rfl, by rw [← hkb]; exact keyC_one _ _ _ _ _, by rw [← hkb]; exact sizeKey, by rw [← hkb]; exact sizeKey⟩ : KeyC kb)
    have hok : keyOk (4 + (d : Int)) 1 (kId ⟨#[102]⟩) (kSeed ⟨#[102]⟩) 0 = false := by unfold keyOk; rw [show Ots.par (4 + (d : Int)) = none from by unfold Ots.par; rw [if_neg (by omega), if_neg (by omega)]]; rfl
    have hPb := hid (fun W => show Calls Try.prog 12 #[.agg kb.toArray] W fun e w' => e = .returned (.tuple #[.string ⟨#[]⟩, .int .i64 500]) ∧ Below W.heap.size W w' from by rw [← hkb]; exact lmsPublic_bad _ _ _ _ _ hok W)
    have hSb := hid (fun W => show Calls Try.prog 14 #[.agg kb.toArray, .string ⟨#[109]⟩] W fun e w' => e = .returned (.tuple #[.string ⟨#[]⟩, .agg zk.toArray, .int .i64 500]) ∧ Below W.heap.size W w' from by rw [← hkb]; exact lmsSign_bad1 _ _ _ _ _ hok _ W)
    clear hok hkb
    obtain ⟨ta, hta⟩ : ∃ t, pb.extract 0 7 = t := ⟨_, rfl⟩
    obtain ⟨tb, htb⟩ : ∃ t, pb.extract 8 pb.size = t := ⟨_, rfl⟩
    rw [hta, htb] at hnp
    have lta : ta.size ≤ 100 := by rw [← hta, ByteArray.size_extract, hpp.out]; omega
    have ltb : tb.size ≤ 100 := by rw [← htb, ByteArray.size_extract, hpp.out]; omega
    have l1 : ta.size + 1 ≤ 9223372036854775807 := by omega
    have l2 : ta.size + 1 + tb.size ≤ 9223372036854775807 := by omega
    clear lta ltb
    have ux := IntWalk.i64_in (4 + (d : Int)) (by omega)
    go_wp2_with (first
      | ((with_reducible refine at_slot (some 9) ?_); refine wpList_run rfl (.pointer (some ⟨W5.heap.size, 0, none⟩)) (W5.alloc (.cells zk.toArray 23)) (by kernel_rfl) ?_)
      | ((with_reducible refine at_slot none ?_); refine wpList_store_mid rfl 23 (.tmp 9) (.tmp 31) rfl W5.heap.size 0 kc1.toArray rfl rfl (by exact key_there W5 _ hC1.out.len) (by exact hC1.out.size) (by exact hC1.out.one) ?_; generalize hW : World.setCells _ _ _ _ = W6; obtain ⟨hN, hb⟩ := key_new hC1.out.len hW; have hB6 := hid (below_up hb hB5.out); have hK6 := hid (hK5.out.below hb hK5.out.lt); have hN6 := hid hN; clear hb hB5 hK5 hN; have hleq := hB6.out.size; clear hW)
      | (go_at_call 16; refine (errNum_any _ _).mono ?_; rintro e w' ⟨rfl, rfl⟩)
      | ((with_reducible refine at_slot (some 49) ?_); refine wpList_load_mid rfl 23 (.tmp 5) rfl W2.heap.size 0 rfl kc _ (by exact h_all hK6.out) Try.underlying23 rfl (by exact hC.out.size') ?_)
      | ((with_reducible refine at_slot (some 12) ?_); refine wpList_run rfl (.pointer (some ⟨W6.heap.size, 0, none⟩)) (W6.alloc (.cells zk.toArray 23)) (by kernel_rfl) ?_)
      | ((with_reducible refine at_slot none ?_); refine wpList_store_mid rfl 23 (.tmp 12) (.tmp 49) rfl W6.heap.size 0 kc.toArray rfl rfl (by exact key_there W6 _ hC.out.len) (by exact hC.out.size) (by exact hC.out.one) ?_; generalize hW : World.setCells _ _ _ _ = W7; obtain ⟨hN, hb⟩ := key_new hC.out.len hW; have hB7 := hid (below_up hb hB6.out); have hK7 := hid (hK6.out.below hb hK6.out.lt); have hN7 := hid (hN6.out.below hb hN6.out.lt); have hM7 := hid hN; clear hb hB6 hK6 hN6 hN; have fz := hM7.out.frozen 0; obtain ⟨cx, hcx⟩ := Option.isSome_iff_exists.1 (show (W7.cell? ⟨W6.heap.size, 0, none⟩).isSome = true from by rw [hM7.out.cell]; simp [hC.out.len]); have hMn := hid (show Holds (W7.setCell ⟨W6.heap.size, 0, none⟩ (.int .i64 (4 + (d : Int)))) W6.heap.size 23 kb from by rw [← hset.out]; exact hM7.out.set 0 _); have hBn := hid (show Below w.heap.size w (W7.setCell ⟨W6.heap.size, 0, none⟩ (.int .i64 (4 + (d : Int)))) from below_put (vs := [.int .i64 (4 + (d : Int))]) hB7.out hleq rfl); clear hW)
      | fail)
    obtain ⟨W8, hWn⟩ : ∃ V, (W7.setCell ⟨W6.heap.size, 0, none⟩ (.int .i64 (4 + (d : Int)))) = V := ⟨_, rfl⟩
    rw [hWn] at hMn hBn ⊢
    have hM8 := hMn
    have hB8 := hBn
    clear hWn hMn hBn fz hcx
    have hb : Below W8.heap.size W8 W8.drew := (Below.refl _ _).drew
    have hM9 := hid (hM8.out.below hb hM8.out.lt)
    have hB9 := hid (below_up hb hB8.out)
    clear hb hM8 hB8
    refine wp_region_held_drew (S := fun V => Holds V W6.heap.size 23 kb) (by kernel_rfl) (by exact hM9.out) (fun hHeld => ?_)
    generalize W8.drew = W9 at *
    refine wpAnyH_take (i := 0) (v := .string pb) rfl (by kernel_rfl) (by kernel_rfl) (by kernel_rfl) (fun _ _ _ h => h) (yieldsIf_move _ rfl rfl rfl) hHeld ?_
    simp only [ly1, ly2, ly3, Act.put, ly5, ly6, ly7]
    refine wpAnyH_take (i := 1) (v := .string ta) rfl (by kernel_rfl) (by kernel_rfl) (by kernel_rfl) (fun _ _ _ h => h) (.inl ⟨by kernel_rfl, fun w _ => by go_simp⟩) hHeld ?_
    simp only [ly1, ly2, ly3, Act.put, ly5, ly6, ly7]
    refine wpAnyH_take (i := 2) (v := .string (ta ++ ⟨#[4]⟩)) rfl (by kernel_rfl) (by kernel_rfl) (by kernel_rfl) (fun _ _ _ h => h) (.inl ⟨by kernel_rfl, fun w _ => by go_simp⟩) hHeld ?_
    simp only [ly1, ly2, ly3, Act.put, ly5, ly6, ly7]
    refine wpAnyH_take (i := 3) (v := .string pb) rfl (by kernel_rfl) (by kernel_rfl) (by kernel_rfl) (fun _ _ _ h => h) (yieldsIf_move _ rfl rfl rfl) hHeld ?_
    simp only [ly1, ly2, ly3, Act.put, ly5, ly6, ly7]
    refine wpAnyH_take (i := 4) (v := .string tb) rfl (by kernel_rfl) (by kernel_rfl) (by kernel_rfl) (fun _ _ _ h => h) (.inl ⟨by kernel_rfl, fun w _ => by go_simp⟩) hHeld ?_
    simp only [ly1, ly2, ly3, Act.put, ly5, ly6, ly7]
    refine wpAnyH_take (i := 5) (v := .string np) rfl (by kernel_rfl) (by kernel_rfl) (by kernel_rfl) (fun _ _ _ h => h) (.inl ⟨by kernel_rfl, fun w _ => by go_simp⟩) hHeld ?_
    simp only [ly1, ly2, ly3, Act.put, ly5, ly6, ly7]
    refine wpAnyH_take (i := 6) (v := .string np) rfl (by kernel_rfl) (by kernel_rfl) (by kernel_rfl) (fun _ _ _ h => h) (yieldsIf_assign _ rfl rfl rfl) hHeld ?_
    simp only [ly1, ly2, ly3, Act.put, ly5, ly6, ly7]
    refine wpAnyH_done (by kernel_rfl) ?_ _
    go_wp2_with (first
      | ((with_reducible refine at_slot (some 112) ?_); refine wpList_load_mid rfl 23 (.tmp 12) rfl W6.heap.size 0 rfl kb _ (by exact h_all hM9.out) Try.underlying23 rfl (by exact hCb.out.size') ?_)
      | fail)
    refine (hPb.out _).mono ?_
    rintro e W10 ⟨rfl, hb⟩
    have hM10 := hid (hM9.out.below hb hM9.out.lt)
    have hB10 := hid (below_up hb hB9.out)
    clear hb hM9 hB9
    go_wp2_with (first
      | ((with_reducible refine at_slot (some 117) ?_); refine wpList_load_mid rfl 23 (.tmp 12) rfl W6.heap.size 0 rfl kb _ (by exact h_all hM10.out) Try.underlying23 rfl (by exact hCb.out.size') ?_)
      | fail)
    refine (hSb.out _).mono ?_
    rintro e W11 ⟨rfl, hb⟩
    have hM11 := hid (hM10.out.below hb hM10.out.lt)
    have hB11 := hid (below_up hb hB10.out)
    clear hb hM10 hB10
    go_wp2_with (first
      | ((with_reducible refine at_slot (some 16) ?_); refine wpList_run rfl (.pointer (some ⟨W11.heap.size, 0, none⟩)) (W11.alloc (.cells zk.toArray 23)) (by kernel_rfl) ?_)
      | ((with_reducible refine at_slot none ?_); refine wpList_store_mid rfl 23 (.tmp 16) (.tmp 120) rfl W11.heap.size 0 zk.toArray rfl rfl (by exact key_there W11 _ hCz.out.len) (by exact hCz.out.size) (by exact hCz.out.one) ?_; generalize hW : World.setCells _ _ _ _ = W12; obtain ⟨hN, hb⟩ := key_new hCz.out.len hW; have hM12 := hid (hM11.out.below hb hM11.out.lt); have hB12 := hid (below_up hb hB11.out); have hZ12 := hid hN; clear hb hM11 hB11 hN; clear hW)
      | fail)
    refine (hv.out _).mono ?_
    rintro e W13 ⟨rfl, hb⟩
    have hM13 := hid (hM12.out.below hb hM12.out.lt)
    have hB13 := hid (below_up hb hB12.out)
    have hZ13 := hid (hZ12.out.below hb hZ12.out.lt)
    clear hb hM12 hB12 hZ12
    go_wp2_with (first
      | (go_at_call 16; refine (errNum_any _ _).mono ?_; rintro e w' ⟨rfl, rfl⟩)
      | fail)
    go_ret
    exact ⟨rfl, hB13.out⟩
  · skip
    obtain ⟨np, hnp⟩ : ∃ t, pb.extract 0 3 ++ ⟨#[2]⟩ ++ pb.extract 4 pb.size = t := ⟨_, rfl⟩
    have hve : Lms.verify np.data.toList (⟨#[109]⟩ : ByteArray).data.toList sg.data.toList = 500 := by
      have hl : np.data.toList = [240, 0, 0] ++ [2] ++ ([0, 0, 0, 3] ++ R) := by
        rw [← hnp, data_append, data_append, cut_to, cut_front pb 4 (by rw [hpp.out]; decide), hRR.out]
        rfl
      exact verify_len (h := 2) (o := Ots.o4) (by rw [hl]; simp [hRl]) (by rw [show np.data.toList.take 4 = [240, 0, 0, 2] from by rw [hl]; rfl]; exact hgt2) (by rw [hl]; rfl) (by rw [data_length, hss.out]; show 2220 ≠ 44 + 32 * 67 + 32 * 2; omega)
    have znv : sg.size ≤ 140737488351232 := by rw [hss.out]; omega
    have hv := hid (fun W => show Calls Try.prog 18 #[.string np, .string ⟨#[109]⟩, .string sg] W fun e w' => e = .returned (.int .i64 500) ∧ Below W.heap.size W w' from by
      have hz := Verify_any np ⟨#[109]⟩ sg (by decide) znv W
      rw [hve] at hz
      exact hz)
    clear hve znv
    obtain ⟨kb, hkb⟩ : ∃ c, keyC 3 (-(d : Int) + 1) (kId ⟨#[102]⟩) (kSeed ⟨#[102]⟩) 0 = c := ⟨_, rfl⟩
    have hset := hid (show kc.set 1 (.int .i64 (-(d : Int) + 1)) = kb from by rw [← hkk.out, ← hkb]; rfl)
    have hCb := hid (⟨by rw [← hkb]; rfl, by rw [← hkb]; exact keyC_one _ _ _ _ _, by rw [← hkb]; exact sizeKey, by rw [← hkb]; exact sizeKey⟩ : KeyC kb)
    have hok : keyOk 3 (-(d : Int) + 1) (kId ⟨#[102]⟩) (kSeed ⟨#[102]⟩) 0 = false := by unfold keyOk; rw [par3, decide_eq_false (by omega : ¬ (1 ≤ -(d : Int) + 1 ∧ -(d : Int) + 1 ≤ 5))]; rfl
    have hPb := hid (fun W => show Calls Try.prog 12 #[.agg kb.toArray] W fun e w' => e = .returned (.tuple #[.string ⟨#[]⟩, .int .i64 500]) ∧ Below W.heap.size W w' from by rw [← hkb]; exact lmsPublic_bad _ _ _ _ _ hok W)
    have hSb := hid (fun W => show Calls Try.prog 14 #[.agg kb.toArray, .string ⟨#[109]⟩] W fun e w' => e = .returned (.tuple #[.string ⟨#[]⟩, .agg zk.toArray, .int .i64 500]) ∧ Below W.heap.size W w' from by rw [← hkb]; exact lmsSign_bad1 _ _ _ _ _ hok _ W)
    clear hok hkb
    obtain ⟨ta, hta⟩ : ∃ t, pb.extract 0 3 = t := ⟨_, rfl⟩
    obtain ⟨tb, htb⟩ : ∃ t, pb.extract 4 pb.size = t := ⟨_, rfl⟩
    rw [hta, htb] at hnp
    have lta : ta.size ≤ 100 := by rw [← hta, ByteArray.size_extract, hpp.out]; omega
    have ltb : tb.size ≤ 100 := by rw [← htb, ByteArray.size_extract, hpp.out]; omega
    have l1 : ta.size + 1 ≤ 9223372036854775807 := by omega
    have l2 : ta.size + 1 + tb.size ≤ 9223372036854775807 := by omega
    clear lta ltb
    have ux := IntWalk.i64_in (-(d : Int)) (by omega)
    have uy := IntWalk.i64_in (-(d : Int) + 1) (by omega)
    go_wp2_with (first
      | ((with_reducible refine at_slot (some 9) ?_); refine wpList_run rfl (.pointer (some ⟨W5.heap.size, 0, none⟩)) (W5.alloc (.cells zk.toArray 23)) (by kernel_rfl) ?_)
      | ((with_reducible refine at_slot none ?_); refine wpList_store_mid rfl 23 (.tmp 9) (.tmp 31) rfl W5.heap.size 0 kc1.toArray rfl rfl (by exact key_there W5 _ hC1.out.len) (by exact hC1.out.size) (by exact hC1.out.one) ?_; generalize hW : World.setCells _ _ _ _ = W6; obtain ⟨hN, hb⟩ := key_new hC1.out.len hW; have hB6 := hid (below_up hb hB5.out); have hK6 := hid (hK5.out.below hb hK5.out.lt); have hN6 := hid hN; clear hb hB5 hK5 hN; have hleq := hB6.out.size; clear hW)
      | (go_at_call 16; refine (errNum_any _ _).mono ?_; rintro e w' ⟨rfl, rfl⟩)
      | ((with_reducible refine at_slot (some 49) ?_); refine wpList_load_mid rfl 23 (.tmp 5) rfl W2.heap.size 0 rfl kc _ (by exact h_all hK6.out) Try.underlying23 rfl (by exact hC.out.size') ?_)
      | ((with_reducible refine at_slot (some 12) ?_); refine wpList_run rfl (.pointer (some ⟨W6.heap.size, 0, none⟩)) (W6.alloc (.cells zk.toArray 23)) (by kernel_rfl) ?_)
      | ((with_reducible refine at_slot none ?_); refine wpList_store_mid rfl 23 (.tmp 12) (.tmp 49) rfl W6.heap.size 0 kc.toArray rfl rfl (by exact key_there W6 _ hC.out.len) (by exact hC.out.size) (by exact hC.out.one) ?_; generalize hW : World.setCells _ _ _ _ = W7; obtain ⟨hN, hb⟩ := key_new hC.out.len hW; have hB7 := hid (below_up hb hB6.out); have hK7 := hid (hK6.out.below hb hK6.out.lt); have hN7 := hid (hN6.out.below hb hN6.out.lt); have hM7 := hid hN; clear hb hB6 hK6 hN6 hN; have fz := hM7.out.frozen 1; obtain ⟨cx, hcx⟩ := Option.isSome_iff_exists.1 (show (W7.cell? ⟨W6.heap.size, 1, none⟩).isSome = true from by rw [hM7.out.cell]; simp [hC.out.len]); have hMn := hid (show Holds (W7.setCell ⟨W6.heap.size, 1, none⟩ (.int .i64 (-(d : Int) + 1))) W6.heap.size 23 kb from by rw [← hset.out]; exact hM7.out.set 1 _); have hBn := hid (show Below w.heap.size w (W7.setCell ⟨W6.heap.size, 1, none⟩ (.int .i64 (-(d : Int) + 1))) from below_put (vs := [.int .i64 (-(d : Int) + 1)]) hB7.out hleq rfl); clear hW)
      | fail)
    obtain ⟨W8, hWn⟩ : ∃ V, (W7.setCell ⟨W6.heap.size, 1, none⟩ (.int .i64 (-(d : Int) + 1))) = V := ⟨_, rfl⟩
    rw [hWn] at hMn hBn ⊢
    have hM8 := hMn
    have hB8 := hBn
    clear hWn hMn hBn fz hcx
    have hb : Below W8.heap.size W8 W8.drew := (Below.refl _ _).drew
    have hM9 := hid (hM8.out.below hb hM8.out.lt)
    have hB9 := hid (below_up hb hB8.out)
    clear hb hM8 hB8
    refine wp_region_held_drew (S := fun V => Holds V W6.heap.size 23 kb) (by kernel_rfl) (by exact hM9.out) (fun hHeld => ?_)
    generalize W8.drew = W9 at *
    refine wpAnyH_take (i := 0) (v := .string pb) rfl (by kernel_rfl) (by kernel_rfl) (by kernel_rfl) (fun _ _ _ h => h) (yieldsIf_move _ rfl rfl rfl) hHeld ?_
    simp only [ly1, ly2, ly3, Act.put, ly5, ly6, ly7]
    refine wpAnyH_take (i := 1) (v := .string ta) rfl (by kernel_rfl) (by kernel_rfl) (by kernel_rfl) (fun _ _ _ h => h) (.inl ⟨by kernel_rfl, fun w _ => by go_simp⟩) hHeld ?_
    simp only [ly1, ly2, ly3, Act.put, ly5, ly6, ly7]
    refine wpAnyH_take (i := 2) (v := .string (ta ++ ⟨#[2]⟩)) rfl (by kernel_rfl) (by kernel_rfl) (by kernel_rfl) (fun _ _ _ h => h) (.inl ⟨by kernel_rfl, fun w _ => by go_simp⟩) hHeld ?_
    simp only [ly1, ly2, ly3, Act.put, ly5, ly6, ly7]
    refine wpAnyH_take (i := 3) (v := .string pb) rfl (by kernel_rfl) (by kernel_rfl) (by kernel_rfl) (fun _ _ _ h => h) (yieldsIf_move _ rfl rfl rfl) hHeld ?_
    simp only [ly1, ly2, ly3, Act.put, ly5, ly6, ly7]
    refine wpAnyH_take (i := 4) (v := .string tb) rfl (by kernel_rfl) (by kernel_rfl) (by kernel_rfl) (fun _ _ _ h => h) (.inl ⟨by kernel_rfl, fun w _ => by go_simp⟩) hHeld ?_
    simp only [ly1, ly2, ly3, Act.put, ly5, ly6, ly7]
    refine wpAnyH_take (i := 5) (v := .string np) rfl (by kernel_rfl) (by kernel_rfl) (by kernel_rfl) (fun _ _ _ h => h) (.inl ⟨by kernel_rfl, fun w _ => by go_simp⟩) hHeld ?_
    simp only [ly1, ly2, ly3, Act.put, ly5, ly6, ly7]
    refine wpAnyH_take (i := 6) (v := .string np) rfl (by kernel_rfl) (by kernel_rfl) (by kernel_rfl) (fun _ _ _ h => h) (yieldsIf_assign _ rfl rfl rfl) hHeld ?_
    simp only [ly1, ly2, ly3, Act.put, ly5, ly6, ly7]
    refine wpAnyH_done (by kernel_rfl) ?_ _
    go_wp2_with (first
      | ((with_reducible refine at_slot (some 112) ?_); refine wpList_load_mid rfl 23 (.tmp 12) rfl W6.heap.size 0 rfl kb _ (by exact h_all hM9.out) Try.underlying23 rfl (by exact hCb.out.size') ?_)
      | fail)
    refine (hPb.out _).mono ?_
    rintro e W10 ⟨rfl, hb⟩
    have hM10 := hid (hM9.out.below hb hM9.out.lt)
    have hB10 := hid (below_up hb hB9.out)
    clear hb hM9 hB9
    go_wp2_with (first
      | ((with_reducible refine at_slot (some 117) ?_); refine wpList_load_mid rfl 23 (.tmp 12) rfl W6.heap.size 0 rfl kb _ (by exact h_all hM10.out) Try.underlying23 rfl (by exact hCb.out.size') ?_)
      | fail)
    refine (hSb.out _).mono ?_
    rintro e W11 ⟨rfl, hb⟩
    have hM11 := hid (hM10.out.below hb hM10.out.lt)
    have hB11 := hid (below_up hb hB10.out)
    clear hb hM10 hB10
    go_wp2_with (first
      | ((with_reducible refine at_slot (some 16) ?_); refine wpList_run rfl (.pointer (some ⟨W11.heap.size, 0, none⟩)) (W11.alloc (.cells zk.toArray 23)) (by kernel_rfl) ?_)
      | ((with_reducible refine at_slot none ?_); refine wpList_store_mid rfl 23 (.tmp 16) (.tmp 120) rfl W11.heap.size 0 zk.toArray rfl rfl (by exact key_there W11 _ hCz.out.len) (by exact hCz.out.size) (by exact hCz.out.one) ?_; generalize hW : World.setCells _ _ _ _ = W12; obtain ⟨hN, hb⟩ := key_new hCz.out.len hW; have hM12 := hid (hM11.out.below hb hM11.out.lt); have hB12 := hid (below_up hb hB11.out); have hZ12 := hid hN; clear hb hM11 hB11 hN; clear hW)
      | fail)
    refine (hv.out _).mono ?_
    rintro e W13 ⟨rfl, hb⟩
    have hM13 := hid (hM12.out.below hb hM12.out.lt)
    have hB13 := hid (below_up hb hB12.out)
    have hZ13 := hid (hZ12.out.below hb hZ12.out.lt)
    clear hb hM12 hB12 hZ12
    go_wp2_with (first
      | (go_at_call 16; refine (errNum_any _ _).mono ?_; rintro e w' ⟨rfl, rfl⟩)
      | fail)
    go_ret
    exact ⟨rfl, hB13.out⟩
  · skip
    obtain ⟨np, hnp⟩ : ∃ t, pb.extract 0 55 = t := ⟨_, rfl⟩
    have hve : Lms.verify np.data.toList (⟨#[109]⟩ : ByteArray).data.toList sg.data.toList = 500 := by
      unfold Lms.verify
      exact if_neg (by rw [← hnp, cut_to, List.length_take, data_length, hpp.out]; decide)
    have znv : sg.size ≤ 140737488351232 := by rw [hss.out]; omega
    have hv := hid (fun W => show Calls Try.prog 18 #[.string np, .string ⟨#[109]⟩, .string sg] W fun e w' => e = .returned (.int .i64 500) ∧ Below W.heap.size W w' from by
      have hz := Verify_any np ⟨#[109]⟩ sg (by decide) znv W
      rw [hve] at hz
      exact hz)
    clear hve znv
    obtain ⟨kb, hkb⟩ : ∃ c, keyC 3 1 ⟨#[120]⟩ (kSeed ⟨#[102]⟩) 0 = c := ⟨_, rfl⟩
    have hset := hid (show kc.set 2 (.string ⟨#[120]⟩) = kb from by rw [← hkk.out, ← hkb]; rfl)
    have hCb := hid (⟨by rw [← hkb]; rfl, by rw [← hkb]; exact keyC_one _ _ _ _ _, by rw [← hkb]; exact sizeKey, by rw [← hkb]; exact sizeKey⟩ : KeyC kb)
    have hok : keyOk 3 1 ⟨#[120]⟩ (kSeed ⟨#[102]⟩) 0 = false := by unfold keyOk; rw [par3]; rfl
    have hPb := hid (fun W => show Calls Try.prog 12 #[.agg kb.toArray] W fun e w' => e = .returned (.tuple #[.string ⟨#[]⟩, .int .i64 500]) ∧ Below W.heap.size W w' from by rw [← hkb]; exact lmsPublic_bad _ _ _ _ _ hok W)
    have hSb := hid (fun W => show Calls Try.prog 14 #[.agg kb.toArray, .string ⟨#[109]⟩] W fun e w' => e = .returned (.tuple #[.string ⟨#[]⟩, .agg zk.toArray, .int .i64 500]) ∧ Below W.heap.size W w' from by rw [← hkb]; exact lmsSign_bad1 _ _ _ _ _ hok _ W)
    clear hok hkb
    go_wp2_with (first
      | ((with_reducible refine at_slot (some 9) ?_); refine wpList_run rfl (.pointer (some ⟨W5.heap.size, 0, none⟩)) (W5.alloc (.cells zk.toArray 23)) (by kernel_rfl) ?_)
      | ((with_reducible refine at_slot none ?_); refine wpList_store_mid rfl 23 (.tmp 9) (.tmp 31) rfl W5.heap.size 0 kc1.toArray rfl rfl (by exact key_there W5 _ hC1.out.len) (by exact hC1.out.size) (by exact hC1.out.one) ?_; generalize hW : World.setCells _ _ _ _ = W6; obtain ⟨hN, hb⟩ := key_new hC1.out.len hW; have hB6 := hid (below_up hb hB5.out); have hK6 := hid (hK5.out.below hb hK5.out.lt); have hN6 := hid hN; clear hb hB5 hK5 hN; have hleq := hB6.out.size; clear hW)
      | (go_at_call 16; refine (errNum_any _ _).mono ?_; rintro e w' ⟨rfl, rfl⟩)
      | ((with_reducible refine at_slot (some 49) ?_); refine wpList_load_mid rfl 23 (.tmp 5) rfl W2.heap.size 0 rfl kc _ (by exact h_all hK6.out) Try.underlying23 rfl (by exact hC.out.size') ?_)
      | ((with_reducible refine at_slot (some 12) ?_); refine wpList_run rfl (.pointer (some ⟨W6.heap.size, 0, none⟩)) (W6.alloc (.cells zk.toArray 23)) (by kernel_rfl) ?_)
      | ((with_reducible refine at_slot none ?_); refine wpList_store_mid rfl 23 (.tmp 12) (.tmp 49) rfl W6.heap.size 0 kc.toArray rfl rfl (by exact key_there W6 _ hC.out.len) (by exact hC.out.size) (by exact hC.out.one) ?_; generalize hW : World.setCells _ _ _ _ = W7; obtain ⟨hN, hb⟩ := key_new hC.out.len hW; have hB7 := hid (below_up hb hB6.out); have hK7 := hid (hK6.out.below hb hK6.out.lt); have hN7 := hid (hN6.out.below hb hN6.out.lt); have hM7 := hid hN; clear hb hB6 hK6 hN6 hN; have fz := hM7.out.frozen 2; obtain ⟨cx, hcx⟩ := Option.isSome_iff_exists.1 (show (W7.cell? ⟨W6.heap.size, 2, none⟩).isSome = true from by rw [hM7.out.cell]; simp [hC.out.len]); have hMn := hid (show Holds (W7.setCell ⟨W6.heap.size, 2, none⟩ (.string ⟨#[120]⟩)) W6.heap.size 23 kb from by rw [← hset.out]; exact hM7.out.set 2 _); have hBn := hid (show Below w.heap.size w (W7.setCell ⟨W6.heap.size, 2, none⟩ (.string ⟨#[120]⟩)) from below_put (vs := [.string ⟨#[120]⟩]) hB7.out hleq rfl); clear hW)
      | ((with_reducible refine at_slot (some 112) ?_); refine wpList_load_mid rfl 23 (.tmp 12) rfl W6.heap.size 0 rfl kb _ (by exact h_all hMn.out) Try.underlying23 rfl (by exact hCb.out.size') ?_)
      | fail)
    obtain ⟨W8, hWn⟩ : ∃ V, (W7.setCell ⟨W6.heap.size, 2, none⟩ (.string ⟨#[120]⟩)) = V := ⟨_, rfl⟩
    rw [hWn] at hMn hBn ⊢
    have hM8 := hMn
    have hB8 := hBn
    clear hWn hMn hBn fz hcx
    refine (hPb.out _).mono ?_
    rintro e W9 ⟨rfl, hb⟩
    have hM9 := hid (hM8.out.below hb hM8.out.lt)
    have hB9 := hid (below_up hb hB8.out)
    clear hb hM8 hB8
    go_wp2_with (first
      | ((with_reducible refine at_slot (some 117) ?_); refine wpList_load_mid rfl 23 (.tmp 12) rfl W6.heap.size 0 rfl kb _ (by exact h_all hM9.out) Try.underlying23 rfl (by exact hCb.out.size') ?_)
      | fail)
    refine (hSb.out _).mono ?_
    rintro e W10 ⟨rfl, hb⟩
    have hM10 := hid (hM9.out.below hb hM9.out.lt)
    have hB10 := hid (below_up hb hB9.out)
    clear hb hM9 hB9
    go_wp2_with (first
      | ((with_reducible refine at_slot (some 16) ?_); refine wpList_run rfl (.pointer (some ⟨W10.heap.size, 0, none⟩)) (W10.alloc (.cells zk.toArray 23)) (by kernel_rfl) ?_)
      | ((with_reducible refine at_slot none ?_); refine wpList_store_mid rfl 23 (.tmp 16) (.tmp 120) rfl W10.heap.size 0 zk.toArray rfl rfl (by exact key_there W10 _ hCz.out.len) (by exact hCz.out.size) (by exact hCz.out.one) ?_; generalize hW : World.setCells _ _ _ _ = W11; obtain ⟨hN, hb⟩ := key_new hCz.out.len hW; have hM11 := hid (hM10.out.below hb hM10.out.lt); have hB11 := hid (below_up hb hB10.out); have hZ11 := hid hN; clear hb hM10 hB10 hN; clear hW)
      | fail)
    refine (hv.out _).mono ?_
    rintro e W12 ⟨rfl, hb⟩
    have hM12 := hid (hM11.out.below hb hM11.out.lt)
    have hB12 := hid (below_up hb hB11.out)
    have hZ12 := hid (hZ11.out.below hb hZ11.out.lt)
    clear hb hM11 hB11 hZ11
    go_wp2_with (first
      | (go_at_call 16; refine (errNum_any _ _).mono ?_; rintro e w' ⟨rfl, rfl⟩)
      | fail)
    go_ret
    exact ⟨rfl, hB12.out⟩
  · skip
    obtain ⟨ns, hns⟩ : ∃ t, sg.extract 0 3 ++ ⟨#[UInt8.ofNat (1 + d)]⟩ ++ sg.extract 4 sg.size = t := ⟨_, rfl⟩
    have hve : Lms.verify pb.data.toList (⟨#[109]⟩ : ByteArray).data.toList ns.data.toList = 500 := by
      have hl : ns.data.toList = [0, 0, 0] ++ [UInt8.ofNat (1 + d)] ++ Q := by
        rw [← hns, data_append, data_append, cut_to, cut_front sg 4 (by rw [hss.out]; decide), hQQ.out]
        rfl
      have hb8 : (UInt8.ofNat (1 + d)).toNat = 1 + d := by simp; omega
      exact verify_big (h := 1) (o := Ots.o4) (by rw [data_length, hpp.out]) (by rw [show pb.data.toList.take 4 = [240, 0, 0, 1] from by rw [hRR.out]; rfl]; exact hgt1) (by rw [hRR.out]; rfl) (by
        have e : ns.data.toList.take 4 = [0, 0, 0, UInt8.ofNat (1 + d)] := by rw [hl]; rfl
        rw [e]
        show 2 ≤ 256 * (256 * (256 * (256 * 0 + 0) + 0) + 0) + (UInt8.ofNat (1 + d)).toNat
        omega)
    have znv : ns.size ≤ 140737488351232 := by rw [← hns, ByteArray.size_append, ByteArray.size_append, ByteArray.size_extract, ByteArray.size_extract, hss.out]; have : (⟨#[UInt8.ofNat (1 + d)]⟩ : ByteArray).size = 1 := rfl; omega
    have hv := hid (fun W => show Calls Try.prog 18 #[.string pb, .string ⟨#[109]⟩, .string ns] W fun e w' => e = .returned (.int .i64 500) ∧ Below W.heap.size W w' from by
      have hz := Verify_any pb ⟨#[109]⟩ ns (by decide) znv W
      rw [hve] at hz
      exact hz)
    clear hve znv
    obtain ⟨kb, hkb⟩ : ∃ c, keyC 3 1 (kId ⟨#[102]⟩) ⟨#[]⟩ 0 = c := ⟨_, rfl⟩
    have hset := hid (show kc.set 3 (.string ⟨#[]⟩) = kb from by rw [← hkk.out, ← hkb]; rfl)
    have hCb := hid (⟨by rw [← hkb]; rfl, by rw [← hkb]; exact keyC_one _ _ _ _ _, by rw [← hkb]; exact sizeKey, by rw [← hkb]; exact sizeKey⟩ : KeyC kb)
    have hok : keyOk 3 1 (kId ⟨#[102]⟩) ⟨#[]⟩ 0 = false := by unfold keyOk; rw [par3, kId_size]; rfl
    have hPb := hid (fun W => show Calls Try.prog 12 #[.agg kb.toArray] W fun e w' => e = .returned (.tuple #[.string ⟨#[]⟩, .int .i64 500]) ∧ Below W.heap.size W w' from by rw [← hkb]; exact lmsPublic_bad _ _ _ _ _ hok W)
    have hSb := hid (fun W => show Calls Try.prog 14 #[.agg kb.toArray, .string ⟨#[109]⟩] W fun e w' => e = .returned (.tuple #[.string ⟨#[]⟩, .agg zk.toArray, .int .i64 500]) ∧ Below W.heap.size W w' from by rw [← hkb]; exact lmsSign_bad1 _ _ _ _ _ hok _ W)
    clear hok hkb
    obtain ⟨ta, hta⟩ : ∃ t, sg.extract 0 3 = t := ⟨_, rfl⟩
    obtain ⟨tb, htb⟩ : ∃ t, sg.extract 4 sg.size = t := ⟨_, rfl⟩
    obtain ⟨tm, htm⟩ : ∃ t : ByteArray, ⟨#[UInt8.ofNat (1 + d)]⟩ = t := ⟨_, rfl⟩
    rw [hta, htb, htm] at hns
    have htm1 := hid (show tm.size = 1 from by rw [← htm]; rfl)
    have htm2 := hid (show strCells tm = [.int .u8 (1 + (d : Int))] from by
      rw [← htm]
      have e : (UInt8.ofNat (1 + d)).toNat = 1 + d := by simp; omega
      show [Value.int .u8 ((UInt8.ofNat (1 + d)).toNat : Int)] = _
      rw [e]
      rfl)
    have htms := htm1.out
    have lta : ta.size ≤ 3000 := by rw [← hta, ByteArray.size_extract, hss.out]; omega
    have ltb : tb.size ≤ 3000 := by rw [← htb, ByteArray.size_extract, hss.out]; omega
    have l1 : ta.size + tm.size ≤ 9223372036854775807 := by omega
    have l2 : ta.size + tm.size + tb.size ≤ 9223372036854775807 := by omega
    clear lta ltb htms htm
    have ux := IntWalk.i64_in (1 + (d : Int)) (by omega)
    have uy := IntWalk.u8_in (1 + (d : Int)) (by omega)
    go_wp2_with (first
      | ((with_reducible refine at_slot (some 9) ?_); refine wpList_run rfl (.pointer (some ⟨W5.heap.size, 0, none⟩)) (W5.alloc (.cells zk.toArray 23)) (by kernel_rfl) ?_)
      | ((with_reducible refine at_slot none ?_); refine wpList_store_mid rfl 23 (.tmp 9) (.tmp 31) rfl W5.heap.size 0 kc1.toArray rfl rfl (by exact key_there W5 _ hC1.out.len) (by exact hC1.out.size) (by exact hC1.out.one) ?_; generalize hW : World.setCells _ _ _ _ = W6; obtain ⟨hN, hb⟩ := key_new hC1.out.len hW; have hB6 := hid (below_up hb hB5.out); have hK6 := hid (hK5.out.below hb hK5.out.lt); have hN6 := hid hN; clear hb hB5 hK5 hN; have hleq := hB6.out.size; clear hW)
      | (go_at_call 16; refine (errNum_any _ _).mono ?_; rintro e w' ⟨rfl, rfl⟩)
      | ((with_reducible refine at_slot (some 49) ?_); refine wpList_load_mid rfl 23 (.tmp 5) rfl W2.heap.size 0 rfl kc _ (by exact h_all hK6.out) Try.underlying23 rfl (by exact hC.out.size') ?_)
      | ((with_reducible refine at_slot (some 12) ?_); refine wpList_run rfl (.pointer (some ⟨W6.heap.size, 0, none⟩)) (W6.alloc (.cells zk.toArray 23)) (by kernel_rfl) ?_)
      | ((with_reducible refine at_slot none ?_); refine wpList_store_mid rfl 23 (.tmp 12) (.tmp 49) rfl W6.heap.size 0 kc.toArray rfl rfl (by exact key_there W6 _ hC.out.len) (by exact hC.out.size) (by exact hC.out.one) ?_; generalize hW : World.setCells _ _ _ _ = W7; obtain ⟨hN, hb⟩ := key_new hC.out.len hW; have hB7 := hid (below_up hb hB6.out); have hK7 := hid (hK6.out.below hb hK6.out.lt); have hN7 := hid (hN6.out.below hb hN6.out.lt); have hM7 := hid hN; clear hb hB6 hK6 hN6 hN; have fz := hM7.out.frozen 3; obtain ⟨cx, hcx⟩ := Option.isSome_iff_exists.1 (show (W7.cell? ⟨W6.heap.size, 3, none⟩).isSome = true from by rw [hM7.out.cell]; simp [hC.out.len]); have hMn := hid (show Holds (W7.setCell ⟨W6.heap.size, 3, none⟩ (.string ⟨#[]⟩)) W6.heap.size 23 kb from by rw [← hset.out]; exact hM7.out.set 3 _); have hBn := hid (show Below w.heap.size w (W7.setCell ⟨W6.heap.size, 3, none⟩ (.string ⟨#[]⟩)) from below_put (vs := [.string ⟨#[]⟩]) hB7.out hleq rfl); clear hW)
      | fail)
    obtain ⟨W8, hWn⟩ : ∃ V, (W7.setCell ⟨W6.heap.size, 3, none⟩ (.string ⟨#[]⟩)) = V := ⟨_, rfl⟩
    rw [hWn] at hMn hBn ⊢
    have hM8 := hMn
    have hB8 := hBn
    clear hWn hMn hBn fz hcx
    have hb : Below W8.heap.size W8 W8.drew := (Below.refl _ _).drew
    have hM9 := hid (hM8.out.below hb hM8.out.lt)
    have hB9 := hid (below_up hb hB8.out)
    clear hb hM8 hB8
    refine wp_region_held_drew (S := fun V => Holds V W6.heap.size 23 kb) (by kernel_rfl) (by exact hM9.out) (fun hHeld => ?_)
    generalize W8.drew = W9 at *
    refine wpAnyH_take (i := 0) (v := .string sg) rfl (by kernel_rfl) (by kernel_rfl) (by kernel_rfl) (fun _ _ _ h => h) (yieldsIf_move _ rfl rfl rfl) hHeld ?_
    simp only [ly1, ly2, ly3, Act.put, ly5, ly6, ly7]
    refine wpAnyH_take (i := 1) (v := .string ta) rfl (by kernel_rfl) (by kernel_rfl) (by kernel_rfl) (fun _ _ _ h => h) (.inl ⟨by kernel_rfl, fun w _ => by go_simp⟩) hHeld ?_
    simp only [ly1, ly2, ly3, Act.put, ly5, ly6, ly7]
    refine wpAnyH_take (i := 2) (v := .int .i64 (d : Int)) rfl (by kernel_rfl) (by kernel_rfl) (by kernel_rfl) (fun _ _ _ h => h) (yieldsIf_move _ rfl rfl rfl) hHeld ?_
    simp only [ly1, ly2, ly3, Act.put, ly5, ly6, ly7]
    refine wpAnyH_take (i := 3) (v := .int .i64 (1 + (d : Int))) rfl (by kernel_rfl) (by kernel_rfl) (by kernel_rfl) (fun _ _ _ h => h) (.inl ⟨by kernel_rfl, fun w _ => by go_simp⟩) hHeld ?_
    simp only [ly1, ly2, ly3, Act.put, ly5, ly6, ly7]
    refine wpAnyH_take (i := 4) (v := .int .u8 (1 + (d : Int))) rfl (by kernel_rfl) (by kernel_rfl) (by kernel_rfl) (fun _ _ _ h => h) (.inl ⟨by kernel_rfl, fun w _ => by go_simp⟩) hHeld ?_
    simp only [ly1, ly2, ly3, Act.put, ly5, ly6, ly7]
    refine wpAnyH_take (i := 8) (v := .string sg) rfl (by kernel_rfl) (by kernel_rfl) (by kernel_rfl) (fun _ _ _ h => h) (yieldsIf_move _ rfl rfl rfl) hHeld ?_
    simp only [ly1, ly2, ly3, Act.put, ly5, ly6, ly7]
    refine wpAnyH_take (i := 9) (v := .string tb) rfl (by kernel_rfl) (by kernel_rfl) (by kernel_rfl) (fun _ _ _ h => h) (.inl ⟨by kernel_rfl, fun w _ => by go_simp⟩) hHeld ?_
    simp only [ly1, ly2, ly3, Act.put, ly5, ly6, ly7]
    refine wpAnyH_ready (rs := [5]) (by kernel_rfl) (by simp) (AllReadyH.cons rfl (fun K hK => ?_) AllReadyH.nil)
    have hK' := hid hK
    clear hK
    rw [if_pos (by kernel_rfl)]
    simp only [ly1, ly2, ly3]
    go_simp
    obtain ⟨W10, hWn⟩ : ∃ V, W9.alloc (.cells #[.int .u8 (1 + (d : Int))] 5) = V := ⟨_, rfl⟩
    have hb : Below W9.heap.size W9 W10 := by rw [← hWn]; exact (Below.refl _ _).alloc (Nat.le_refl _) _
    have hN : Holds W10 W9.heap.size 5 [.int .u8 (1 + (d : Int))] := by rw [← hWn]; exact Holds.new _ _ _
    have hcv := run_convert_block (P := Try.prog) (w := W10) (s := tm) (c := 1) 49 9 Try.underlying49 Try.underlying5 Try.underlying9 htm1.out.symm hN htm2.out.symm
    rw [hWn]
    have hM10 := hid (hM9.out.below hb hM9.out.lt)
    have hB10 := hid (below_up hb hB9.out)
    clear hb hM9 hB9 hN hWn
    refine hK'.out _ _ (by exact hM10.out) (fun hHeld => ?_)
    clear hK' K
    refine wpAnyH_ready (rs := [6]) (by kernel_rfl) (by simp) (AllReadyH.cons rfl (fun K hK => ?_) AllReadyH.nil)
    have hK' := hid hK
    clear hK
    rw [if_pos (by kernel_rfl)]
    simp only [ly1, ly2, ly3]
    go_simp
    clear hcv
    refine hK'.out _ _ (by exact hM10.out) (fun hHeld => ?_)
    clear hK' K
    refine wpAnyH_take (i := 7) (v := .string (ta ++ tm)) rfl (by kernel_rfl) (by kernel_rfl) (by kernel_rfl) (fun _ _ _ h => h) (.inl ⟨by kernel_rfl, fun w _ => by go_simp⟩) hHeld ?_
    simp only [ly1, ly2, ly3, Act.put, ly5, ly6, ly7]
    refine wpAnyH_take (i := 10) (v := .string ns) rfl (by kernel_rfl) (by kernel_rfl) (by kernel_rfl) (fun _ _ _ h => h) (.inl ⟨by kernel_rfl, fun w _ => by go_simp⟩) hHeld ?_
    simp only [ly1, ly2, ly3, Act.put, ly5, ly6, ly7]
    refine wpAnyH_take (i := 11) (v := .string ns) rfl (by kernel_rfl) (by kernel_rfl) (by kernel_rfl) (fun _ _ _ h => h) (yieldsIf_assign _ rfl rfl rfl) hHeld ?_
    simp only [ly1, ly2, ly3, Act.put, ly5, ly6, ly7]
    refine wpAnyH_done (by kernel_rfl) ?_ _
    go_wp2_with (first
      | ((with_reducible refine at_slot (some 112) ?_); refine wpList_load_mid rfl 23 (.tmp 12) rfl W6.heap.size 0 rfl kb _ (by exact h_all hM10.out) Try.underlying23 rfl (by exact hCb.out.size') ?_)
      | fail)
    refine (hPb.out _).mono ?_
    rintro e W11 ⟨rfl, hb⟩
    have hM11 := hid (hM10.out.below hb hM10.out.lt)
    have hB11 := hid (below_up hb hB10.out)
    clear hb hM10 hB10
    go_wp2_with (first
      | ((with_reducible refine at_slot (some 117) ?_); refine wpList_load_mid rfl 23 (.tmp 12) rfl W6.heap.size 0 rfl kb _ (by exact h_all hM11.out) Try.underlying23 rfl (by exact hCb.out.size') ?_)
      | fail)
    refine (hSb.out _).mono ?_
    rintro e W12 ⟨rfl, hb⟩
    have hM12 := hid (hM11.out.below hb hM11.out.lt)
    have hB12 := hid (below_up hb hB11.out)
    clear hb hM11 hB11
    go_wp2_with (first
      | ((with_reducible refine at_slot (some 16) ?_); refine wpList_run rfl (.pointer (some ⟨W12.heap.size, 0, none⟩)) (W12.alloc (.cells zk.toArray 23)) (by kernel_rfl) ?_)
      | ((with_reducible refine at_slot none ?_); refine wpList_store_mid rfl 23 (.tmp 16) (.tmp 120) rfl W12.heap.size 0 zk.toArray rfl rfl (by exact key_there W12 _ hCz.out.len) (by exact hCz.out.size) (by exact hCz.out.one) ?_; generalize hW : World.setCells _ _ _ _ = W13; obtain ⟨hN, hb⟩ := key_new hCz.out.len hW; have hM13 := hid (hM12.out.below hb hM12.out.lt); have hB13 := hid (below_up hb hB12.out); have hZ13 := hid hN; clear hb hM12 hB12 hN; clear hW)
      | fail)
    refine (hv.out _).mono ?_
    rintro e W14 ⟨rfl, hb⟩
    have hM14 := hid (hM13.out.below hb hM13.out.lt)
    have hB14 := hid (below_up hb hB13.out)
    have hZ14 := hid (hZ13.out.below hb hZ13.out.lt)
    clear hb hM13 hB13 hZ13
    go_wp2_with (first
      | (go_at_call 16; refine (errNum_any _ _).mono ?_; rintro e w' ⟨rfl, rfl⟩)
      | fail)
    go_ret
    exact ⟨rfl, hB14.out⟩
  · skip
    obtain ⟨ns, hns⟩ : ∃ t, sg ++ ⟨#[97]⟩ = t := ⟨_, rfl⟩
    have hve : Lms.verify pb.data.toList (⟨#[109]⟩ : ByteArray).data.toList ns.data.toList = 500 := by
      exact verify_len (h := 1) (o := Ots.o4) (by rw [data_length, hpp.out]) (by rw [show pb.data.toList.take 4 = [240, 0, 0, 1] from by rw [hRR.out]; rfl]; exact hgt1) (by rw [hRR.out]; rfl) (by rw [← hns, data_length, ByteArray.size_append, hss.out]; show 2220 + 1 ≠ 44 + 32 * 67 + 32 * 1; omega)
    have znv : ns.size ≤ 140737488351232 := by rw [← hns, ByteArray.size_append, hss.out]; have : (⟨#[97]⟩ : ByteArray).size = 1 := rfl; omega
    have hv := hid (fun W => show Calls Try.prog 18 #[.string pb, .string ⟨#[109]⟩, .string ns] W fun e w' => e = .returned (.int .i64 500) ∧ Below W.heap.size W w' from by
      have hz := Verify_any pb ⟨#[109]⟩ ns (by decide) znv W
      rw [hve] at hz
      exact hz)
    clear hve znv
    obtain ⟨kb, hkb⟩ : ∃ c, keyC 3 1 (kId ⟨#[102]⟩) (kSeed ⟨#[102]⟩) (-(d : Int)) = c := ⟨_, rfl⟩
    have hset := hid (show kc.set 4 (.int .i64 (-(d : Int))) = kb from by rw [← hkk.out, ← hkb]; rfl)
    have hCb := hid (⟨by rw [← hkb]; rfl, by rw [← hkb]; exact keyC_one _ _ _ _ _, by rw [← hkb]; exact sizeKey, by rw [← hkb]; exact sizeKey⟩ : KeyC kb)
    have hok : keyOk 3 1 (kId ⟨#[102]⟩) (kSeed ⟨#[102]⟩) (-(d : Int)) = false := by unfold keyOk; rw [par3, kId_size, kSeed_size, decide_eq_false (by omega : ¬ (0 : Int) ≤ -(d : Int))]; rfl
    have hPb := hid (fun W => show Calls Try.prog 12 #[.agg kb.toArray] W fun e w' => e = .returned (.tuple #[.string ⟨#[]⟩, .int .i64 500]) ∧ Below W.heap.size W w' from by rw [← hkb]; exact lmsPublic_bad _ _ _ _ _ hok W)
    have hSb := hid (fun W => show Calls Try.prog 14 #[.agg kb.toArray, .string ⟨#[109]⟩] W fun e w' => e = .returned (.tuple #[.string ⟨#[]⟩, .agg zk.toArray, .int .i64 500]) ∧ Below W.heap.size W w' from by rw [← hkb]; exact lmsSign_bad1 _ _ _ _ _ hok _ W)
    clear hok hkb
    have ux := IntWalk.i64_in (-(d : Int)) (by omega)
    have lz : sg.size + 1 ≤ 9223372036854775807 := by have := hss.out; omega
    go_wp2_with (first
      | ((with_reducible refine at_slot (some 9) ?_); refine wpList_run rfl (.pointer (some ⟨W5.heap.size, 0, none⟩)) (W5.alloc (.cells zk.toArray 23)) (by kernel_rfl) ?_)
      | ((with_reducible refine at_slot none ?_); refine wpList_store_mid rfl 23 (.tmp 9) (.tmp 31) rfl W5.heap.size 0 kc1.toArray rfl rfl (by exact key_there W5 _ hC1.out.len) (by exact hC1.out.size) (by exact hC1.out.one) ?_; generalize hW : World.setCells _ _ _ _ = W6; obtain ⟨hN, hb⟩ := key_new hC1.out.len hW; have hB6 := hid (below_up hb hB5.out); have hK6 := hid (hK5.out.below hb hK5.out.lt); have hN6 := hid hN; clear hb hB5 hK5 hN; have hleq := hB6.out.size; clear hW)
      | (go_at_call 16; refine (errNum_any _ _).mono ?_; rintro e w' ⟨rfl, rfl⟩)
      | ((with_reducible refine at_slot (some 49) ?_); refine wpList_load_mid rfl 23 (.tmp 5) rfl W2.heap.size 0 rfl kc _ (by exact h_all hK6.out) Try.underlying23 rfl (by exact hC.out.size') ?_)
      | ((with_reducible refine at_slot (some 12) ?_); refine wpList_run rfl (.pointer (some ⟨W6.heap.size, 0, none⟩)) (W6.alloc (.cells zk.toArray 23)) (by kernel_rfl) ?_)
      | ((with_reducible refine at_slot none ?_); refine wpList_store_mid rfl 23 (.tmp 12) (.tmp 49) rfl W6.heap.size 0 kc.toArray rfl rfl (by exact key_there W6 _ hC.out.len) (by exact hC.out.size) (by exact hC.out.one) ?_; generalize hW : World.setCells _ _ _ _ = W7; obtain ⟨hN, hb⟩ := key_new hC.out.len hW; have hB7 := hid (below_up hb hB6.out); have hK7 := hid (hK6.out.below hb hK6.out.lt); have hN7 := hid (hN6.out.below hb hN6.out.lt); have hM7 := hid hN; clear hb hB6 hK6 hN6 hN; have fz := hM7.out.frozen 4; obtain ⟨cx, hcx⟩ := Option.isSome_iff_exists.1 (show (W7.cell? ⟨W6.heap.size, 4, none⟩).isSome = true from by rw [hM7.out.cell]; simp [hC.out.len]); have hMn := hid (show Holds (W7.setCell ⟨W6.heap.size, 4, none⟩ (.int .i64 (-(d : Int)))) W6.heap.size 23 kb from by rw [← hset.out]; exact hM7.out.set 4 _); have hBn := hid (show Below w.heap.size w (W7.setCell ⟨W6.heap.size, 4, none⟩ (.int .i64 (-(d : Int)))) from below_put (vs := [.int .i64 (-(d : Int))]) hB7.out hleq rfl); clear hW)
      | ((with_reducible refine at_slot (some 112) ?_); refine wpList_load_mid rfl 23 (.tmp 12) rfl W6.heap.size 0 rfl kb _ (by exact h_all hMn.out) Try.underlying23 rfl (by exact hCb.out.size') ?_)
      | fail)
    obtain ⟨W8, hWn⟩ : ∃ V, (W7.setCell ⟨W6.heap.size, 4, none⟩ (.int .i64 (-(d : Int)))) = V := ⟨_, rfl⟩
    rw [hWn] at hMn hBn ⊢
    have hM8 := hMn
    have hB8 := hBn
    clear hWn hMn hBn fz hcx
    refine (hPb.out _).mono ?_
    rintro e W9 ⟨rfl, hb⟩
    have hM9 := hid (hM8.out.below hb hM8.out.lt)
    have hB9 := hid (below_up hb hB8.out)
    clear hb hM8 hB8
    go_wp2_with (first
      | ((with_reducible refine at_slot (some 117) ?_); refine wpList_load_mid rfl 23 (.tmp 12) rfl W6.heap.size 0 rfl kb _ (by exact h_all hM9.out) Try.underlying23 rfl (by exact hCb.out.size') ?_)
      | fail)
    refine (hSb.out _).mono ?_
    rintro e W10 ⟨rfl, hb⟩
    have hM10 := hid (hM9.out.below hb hM9.out.lt)
    have hB10 := hid (below_up hb hB9.out)
    clear hb hM9 hB9
    go_wp2_with (first
      | ((with_reducible refine at_slot (some 16) ?_); refine wpList_run rfl (.pointer (some ⟨W10.heap.size, 0, none⟩)) (W10.alloc (.cells zk.toArray 23)) (by kernel_rfl) ?_)
      | ((with_reducible refine at_slot none ?_); refine wpList_store_mid rfl 23 (.tmp 16) (.tmp 120) rfl W10.heap.size 0 zk.toArray rfl rfl (by exact key_there W10 _ hCz.out.len) (by exact hCz.out.size) (by exact hCz.out.one) ?_; generalize hW : World.setCells _ _ _ _ = W11; obtain ⟨hN, hb⟩ := key_new hCz.out.len hW; have hM11 := hid (hM10.out.below hb hM10.out.lt); have hB11 := hid (below_up hb hB10.out); have hZ11 := hid hN; clear hb hM10 hB10 hN; clear hW)
      | fail)
    refine (hv.out _).mono ?_
    rintro e W12 ⟨rfl, hb⟩
    have hM12 := hid (hM11.out.below hb hM11.out.lt)
    have hB12 := hid (below_up hb hB11.out)
    have hZ12 := hid (hZ11.out.below hb hZ11.out.lt)
    clear hb hM11 hB11 hZ11
    go_wp2_with (first
      | (go_at_call 16; refine (errNum_any _ _).mono ?_; rintro e w' ⟨rfl, rfl⟩)
      | fail)
    go_ret
    exact ⟨rfl, hB12.out⟩
  · skip
    obtain ⟨n5, hn5⟩ : ∃ n, sg.size - d = n := ⟨_, rfl⟩
    have hnn5 := hn5
    obtain ⟨ns, hns⟩ : ∃ t, sg.extract 0 n5 = t := ⟨_, rfl⟩
    have hve : Lms.verify pb.data.toList (⟨#[109]⟩ : ByteArray).data.toList ns.data.toList = 500 := by
      have hsz5 : ns.size = 2220 - d := by rw [← hns, ByteArray.size_extract, hss.out, ← hn5, hss.out]; omega
      exact verify_len (h := 1) (o := Ots.o4) (by rw [data_length, hpp.out]) (by rw [show pb.data.toList.take 4 = [240, 0, 0, 1] from by rw [hRR.out]; rfl]; exact hgt1) (by rw [hRR.out]; rfl) (by rw [data_length, hsz5]; show 2220 - d ≠ 2220; omega)
    have znv : ns.size ≤ 140737488351232 := by rw [← hns, ByteArray.size_extract, hss.out]; omega
    have hv := hid (fun W => show Calls Try.prog 18 #[.string pb, .string ⟨#[109]⟩, .string ns] W fun e w' => e = .returned (.int .i64 500) ∧ Below W.heap.size W w' from by
      have hz := Verify_any pb ⟨#[109]⟩ ns (by decide) znv W
      rw [hve] at hz
      exact hz)
    clear hve znv
    obtain ⟨kb, hkb⟩ : ∃ c, keyC 3 1 (kId ⟨#[102]⟩) (kSeed ⟨#[102]⟩) (2 + (d : Int)) = c := ⟨_, rfl⟩
    have hset := hid (show kc.set 4 (.int .i64 (2 + (d : Int))) = kb from by rw [← hkk.out, ← hkb]; rfl)
    have hCb := hid (⟨by rw [← hkb]; rfl, by rw [← hkb]; exact keyC_one _ _ _ _ _, by rw [← hkb]; exact sizeKey, by rw [← hkb]; exact sizeKey⟩ : KeyC kb)
    have hok : keyOk 3 1 (kId ⟨#[102]⟩) (kSeed ⟨#[102]⟩) (2 + (d : Int)) = false := by unfold keyOk; rw [par3, kId_size, kSeed_size, decide_eq_true (by omega : (0 : Int) ≤ 2 + (d : Int)), show (((2 ^ (1 : Int).toNat : Nat) : Nat) : Int) = 2 from rfl, decide_eq_false (by omega : ¬ 2 + (d : Int) ≤ 2)]; rfl
    have hPb := hid (fun W => show Calls Try.prog 12 #[.agg kb.toArray] W fun e w' => e = .returned (.tuple #[.string ⟨#[]⟩, .int .i64 500]) ∧ Below W.heap.size W w' from by rw [← hkb]; exact lmsPublic_bad _ _ _ _ _ hok W)
    have hSb := hid (fun W => show Calls Try.prog 14 #[.agg kb.toArray, .string ⟨#[109]⟩] W fun e w' => e = .returned (.tuple #[.string ⟨#[]⟩, .agg zk.toArray, .int .i64 500]) ∧ Below W.heap.size W w' from by rw [← hkb]; exact lmsSign_bad1 _ _ _ _ _ hok _ W)
    clear hok hkb
    have ux := IntWalk.i64_in (2 + (d : Int)) (by omega)
    have zs5 := hss.out
    have uz := IntWalk.i64_in (n5 : Int) (by omega)
    have uw : (sg.size : Int) - (d : Int) = (n5 : Int) := by omega
    have u5 : (n5 : Int) ≤ (sg.size : Int) := by omega
    have u50 : (0 : Int) ≤ (n5 : Int) := by omega
    clear zs5 hn5 hnn5
    go_wp2_with (first
      | ((with_reducible refine at_slot (some 9) ?_); refine wpList_run rfl (.pointer (some ⟨W5.heap.size, 0, none⟩)) (W5.alloc (.cells zk.toArray 23)) (by kernel_rfl) ?_)
      | ((with_reducible refine at_slot none ?_); refine wpList_store_mid rfl 23 (.tmp 9) (.tmp 31) rfl W5.heap.size 0 kc1.toArray rfl rfl (by exact key_there W5 _ hC1.out.len) (by exact hC1.out.size) (by exact hC1.out.one) ?_; generalize hW : World.setCells _ _ _ _ = W6; obtain ⟨hN, hb⟩ := key_new hC1.out.len hW; have hB6 := hid (below_up hb hB5.out); have hK6 := hid (hK5.out.below hb hK5.out.lt); have hN6 := hid hN; clear hb hB5 hK5 hN; have hleq := hB6.out.size; clear hW)
      | (go_at_call 16; refine (errNum_any _ _).mono ?_; rintro e w' ⟨rfl, rfl⟩)
      | ((with_reducible refine at_slot (some 49) ?_); refine wpList_load_mid rfl 23 (.tmp 5) rfl W2.heap.size 0 rfl kc _ (by exact h_all hK6.out) Try.underlying23 rfl (by exact hC.out.size') ?_)
      | ((with_reducible refine at_slot (some 12) ?_); refine wpList_run rfl (.pointer (some ⟨W6.heap.size, 0, none⟩)) (W6.alloc (.cells zk.toArray 23)) (by kernel_rfl) ?_)
      | ((with_reducible refine at_slot none ?_); refine wpList_store_mid rfl 23 (.tmp 12) (.tmp 49) rfl W6.heap.size 0 kc.toArray rfl rfl (by exact key_there W6 _ hC.out.len) (by exact hC.out.size) (by exact hC.out.one) ?_; generalize hW : World.setCells _ _ _ _ = W7; obtain ⟨hN, hb⟩ := key_new hC.out.len hW; have hB7 := hid (below_up hb hB6.out); have hK7 := hid (hK6.out.below hb hK6.out.lt); have hN7 := hid (hN6.out.below hb hN6.out.lt); have hM7 := hid hN; clear hb hB6 hK6 hN6 hN; have fz := hM7.out.frozen 4; obtain ⟨cx, hcx⟩ := Option.isSome_iff_exists.1 (show (W7.cell? ⟨W6.heap.size, 4, none⟩).isSome = true from by rw [hM7.out.cell]; simp [hC.out.len]); have hMn := hid (show Holds (W7.setCell ⟨W6.heap.size, 4, none⟩ (.int .i64 (2 + (d : Int)))) W6.heap.size 23 kb from by rw [← hset.out]; exact hM7.out.set 4 _); have hBn := hid (show Below w.heap.size w (W7.setCell ⟨W6.heap.size, 4, none⟩ (.int .i64 (2 + (d : Int)))) from below_put (vs := [.int .i64 (2 + (d : Int))]) hB7.out hleq rfl); clear hW)
      | ((with_reducible refine at_slot (some 112) ?_); refine wpList_load_mid rfl 23 (.tmp 12) rfl W6.heap.size 0 rfl kb _ (by exact h_all hMn.out) Try.underlying23 rfl (by exact hCb.out.size') ?_)
      | fail)
    obtain ⟨W8, hWn⟩ : ∃ V, (W7.setCell ⟨W6.heap.size, 4, none⟩ (.int .i64 (2 + (d : Int)))) = V := ⟨_, rfl⟩
    rw [hWn] at hMn hBn ⊢
    have hM8 := hMn
    have hB8 := hBn
    clear hWn hMn hBn fz hcx
    refine (hPb.out _).mono ?_
    rintro e W9 ⟨rfl, hb⟩
    have hM9 := hid (hM8.out.below hb hM8.out.lt)
    have hB9 := hid (below_up hb hB8.out)
    clear hb hM8 hB8
    go_wp2_with (first
      | ((with_reducible refine at_slot (some 117) ?_); refine wpList_load_mid rfl 23 (.tmp 12) rfl W6.heap.size 0 rfl kb _ (by exact h_all hM9.out) Try.underlying23 rfl (by exact hCb.out.size') ?_)
      | fail)
    refine (hSb.out _).mono ?_
    rintro e W10 ⟨rfl, hb⟩
    have hM10 := hid (hM9.out.below hb hM9.out.lt)
    have hB10 := hid (below_up hb hB9.out)
    clear hb hM9 hB9
    go_wp2_with (first
      | ((with_reducible refine at_slot (some 16) ?_); refine wpList_run rfl (.pointer (some ⟨W10.heap.size, 0, none⟩)) (W10.alloc (.cells zk.toArray 23)) (by kernel_rfl) ?_)
      | ((with_reducible refine at_slot none ?_); refine wpList_store_mid rfl 23 (.tmp 16) (.tmp 120) rfl W10.heap.size 0 zk.toArray rfl rfl (by exact key_there W10 _ hCz.out.len) (by exact hCz.out.size) (by exact hCz.out.one) ?_; generalize hW : World.setCells _ _ _ _ = W11; obtain ⟨hN, hb⟩ := key_new hCz.out.len hW; have hM11 := hid (hM10.out.below hb hM10.out.lt); have hB11 := hid (below_up hb hB10.out); have hZ11 := hid hN; clear hb hM10 hB10 hN; clear hW)
      | fail)
    refine (hv.out _).mono ?_
    rintro e W12 ⟨rfl, hb⟩
    have hM12 := hid (hM11.out.below hb hM11.out.lt)
    have hB12 := hid (below_up hb hB11.out)
    have hZ12 := hid (hZ11.out.below hb hZ11.out.lt)
    clear hb hM11 hB11 hZ11
    go_wp2_with (first
      | (go_at_call 16; refine (errNum_any _ _).mono ?_; rintro e w' ⟨rfl, rfl⟩)
      | fail)
    go_ret
    exact ⟨rfl, hB12.out⟩

end Go.Proofs.Ytmfajekfipfjpaa
