/- Layer 6: HssBack. -/
import Derived.Test.YtmfajekfipfjpaaHsO
namespace Go.Proofs.Ytmfajekfipfjpaa
open Go.RowKit
open Go.Lib (strCells strCells_length strCells_oneCell)
attribute [local irreducible] Sha.compress Sha.blocks Sha.sha Sha.pad

theorem hkSig_list (s : ByteArray) (q : Nat) (msg : ByteArray) : ∃ R Q : List UInt8, R.length = 2272 ∧ (hkSig s q msg).data.toList = beL 4 1 ++ (beL 4 (q / 2) ++ (R ++ (beL 4 (q % 2) ++ Q))) := by
  have e1 : ∃ A, (sigT Ots.o4 3 1 (hId s) (hSeed s) (q / 2 ^ 1) (lowPubT Ots.o4 3 1 (hId s) (hSeed s) (q / 2 ^ 1))).data.toList = beL 4 (q / 2) ++ A := ⟨_, by unfold sigT Lms.signL; rw [txt_list, List.append_assoc, List.append_assoc]⟩
  have e2 : ∃ B, (sigT Ots.o4 3 1 (lowId (hId s) (hSeed s) (q / 2 ^ 1)) (lowSeed (hId s) (hSeed s) (q / 2 ^ 1)) (q % 2 ^ 1) msg).data.toList = beL 4 (q % 2) ++ B := ⟨_, by unfold sigT Lms.signL; rw [txt_list, List.append_assoc, List.append_assoc]⟩
  have z1 := sig_size Ots.o4 3 1 (q / 2 ^ 1) (hId s) (hSeed s) (lowPubT Ots.o4 3 1 (hId s) (hSeed s) (q / 2 ^ 1))
  have z2 : (lowPubT Ots.o4 3 1 (hId s) (hSeed s) (q / 2 ^ 1)).size = 56 := pubT_size _ _ _ _ _ (lowId_size _ _ _)
  obtain ⟨A, hA⟩ := e1
  obtain ⟨B, hB⟩ := e2
  rw [← data_length] at z1 z2
  rw [hA, List.length_append, beL_length] at z1
  refine ⟨A ++ (lowPubT Ots.o4 3 1 (hId s) (hSeed s) (q / 2 ^ 1)).data.toList, B, ?_, ?_⟩
  · rw [List.length_append, z2]
    have e : Ots.o4.p = 67 := rfl
    omega
  · unfold hkSig hSigT
    rw [data_append, data_append, data_append, hA, hB]
    simp only [List.append_assoc]
    rfl
theorem hkSig_at (s : ByteArray) (q : Nat) (msg : ByteArray) (hz : 2283 < (hkSig s q msg).size) (h7 : 7 < (hkSig s q msg).size) : (hkSig s q msg).data.toList.getD 7 0 = UInt8.ofNat (q / 2) ∧ (hkSig s q msg)[7]'h7 = UInt8.ofNat (q / 2) ∧ (hkSig s q msg).data.toList.getD 2283 0 = UInt8.ofNat (q % 2) ∧ (hkSig s q msg)[2283]'hz = UInt8.ofNat (q % 2) := by
  obtain ⟨R, Q, hR, e⟩ := hkSig_list s q msg
  have e7 : (hkSig s q msg).data.toList[7]? = some (UInt8.ofNat (q / 2)) := by
    rw [e, List.getElem?_append_right (by rw [beL_length]; decide), List.getElem?_append_left (by rw [beL_length, beL_length]; decide), beL_length]
    simp [beL]
  have e9 : (hkSig s q msg).data.toList[2283]? = some (UInt8.ofNat (q % 2)) := by
    rw [e, List.getElem?_append_right (by rw [beL_length]; decide), List.getElem?_append_right (by rw [beL_length, beL_length]; decide), List.getElem?_append_right (by rw [beL_length, beL_length, hR]; decide), List.getElem?_append_left (by rw [beL_length, beL_length, beL_length, hR]; decide), beL_length, beL_length, hR]
    simp [beL]
  have h1 : 7 < (hkSig s q msg).data.size := h7
  have h2 : 2283 < (hkSig s q msg).data.size := hz
  refine ⟨by rw [List.getD_eq_getElem?_getD, e7]; rfl, ?_, by rw [List.getD_eq_getElem?_getD, e9]; rfl, ?_⟩
  · rw [Array.getElem?_toList, Array.getElem?_eq_getElem h1] at e7
    exact Option.some.inj e7
  · rw [Array.getElem?_toList, Array.getElem?_eq_getElem h2] at e9
    exact Option.some.inj e9

set_option maxRecDepth 100000 in
set_option maxHeartbeats 3000000 in
theorem HssBack_law {w : World} (s : ByteArray) (hs : s.size ≤ 140737488351232) (msg : ByteArray) (hm : msg.size ≤ 140737488351232) :
    Calls Try.prog 9 #[.string s, .string msg] w fun e w' => e = .returned (.bool true) ∧ Below w.heap.size w w' := by
  have hKey := hid (fun W => show Calls Try.prog 28 #[.string s, .int .i64 0] W fun e w' => e = .returned (.agg (hCells s 0).toArray) ∧ Below W.heap.size W w' from Key6_any s 0 hs W)
  obtain ⟨pb, hpb⟩ : ∃ c, hkPub s = c := ⟨_, rfl⟩
  obtain ⟨kc, hkc⟩ : ∃ kc : Nat → List Value, hCells s = kc := ⟨_, rfl⟩
  have hPub := hid (fun W => hkPublic s 0 (by decide) W)
  rw [hpb] at hPub
  have hC := hid (fun q => hkKey s q)
  have k4 := hid (fun q => show (hCells s q)[4]? = some (.int .i64 ((q : Nat) : Int)) from rfl)
  have hLf := hid (fun q (hq : q ≤ 4) W => hkLeft s q hq W)
  rw [hkc] at hKey hPub hC k4 hLf
  have hpb' := hid hpb
  have hkc' := hid hkc
  clear hpb hkc
  go_enter Try.func9, Try.ntmps9
  go_wp2_with fail
  refine (awake6_any _).mono ?_
  rintro e W1 ⟨rfl, hb⟩
  have hB1 := hid hb
  clear hb
  by_cases hbig : 65536 < msg.size
  · have hbi : (65536 : Int) < (msg.size : Int) := by omega
    go_wp2_with fail
    go_ret
    exact ⟨rfl, hB1.out⟩
  have hbi : ¬ (65536 : Int) < (msg.size : Int) := by omega
  have hm65 : msg.size ≤ 65536 := by omega
  go_wp2_with fail
  refine (hKey.out _).mono ?_
  rintro e W2 ⟨rfl, hb⟩
  have hB2 := hid (below_up hb hB1.out)
  clear hb hB1
  have hC0 := hid (hC.out 0)
  have hle := hid (show w.heap.size ≤ W2.heap.size from hB2.out.size)
  go_wp2_with (first
    | ((with_reducible refine at_slot (some 5) ?_); refine wpList_run rfl (.pointer (some ⟨W2.heap.size, 0, none⟩)) (W2.alloc (.cells zk.toArray 53)) (by kernel_rfl) ?_)
    | ((with_reducible refine at_slot none ?_); refine wpList_store_mid rfl 53 (.tmp 5) (.tmp 22) rfl W2.heap.size 0 (kc 0).toArray rfl rfl (by exact hsk_there W2 _ hC0.out.len) (by exact hC0.out.size) (by exact hC0.out.one) ?_; generalize hW : World.setCells _ _ _ _ = W3; obtain ⟨hN, hb⟩ := hsk_new hC0.out.len hW; have hB3 := hid (below_up hb hB2.out); have hK3 := hid hN; clear hb hB2 hN; clear hW)
    | ((with_reducible refine at_slot (some 24) ?_); refine wpList_load_mid rfl 53 (.tmp 5) rfl W2.heap.size 0 rfl (kc 0) _ (by exact h_all hK3.out) Try.underlying53 rfl (by exact hC0.out.size') ?_)
    | fail)
  refine (hPub.out _).mono ?_
  rintro e W4 ⟨rfl, hb⟩
  have hB4 := hid (below_up hb hB3.out)
  have hK4 := hid (hK3.out.below hb hK3.out.lt)
  clear hb hB3 hK3
  go_wp2_with fail
  obtain ⟨q7, hq7⟩ : ∃ q, W2.heap.size = q := ⟨_, rfl⟩
  rw [hq7] at hK4 ⊢
  have hlw : w.heap.size ≤ q7 := by rw [← hq7]; exact hle.out
  go_loopw [8] (fun i wr => ∃ k : Nat, k ≤ 4 ∧ i = .int .i64 (k : Int) ∧ Holds wr q7 53 (kc k) ∧ Below w.heap.size w wr) (fun i _ => 4 - (intOf i).toNat)
  case atStart => exact ⟨0, Nat.zero_le _, rfl, hK4.out, hB4.out⟩
  case round =>
    obtain ⟨k, hk, rfl, hKr, hBr⟩ := hrel
    have hK0 := hid hKr
    have hB0 := hid hBr
    clear hKr hBr
    by_cases hlt : k < 4
    · have hki : (k : Int) < 4 := by omega
      have ukw := IntWalk.i64_in ((k : Int) + 1) (by omega)
      obtain ⟨m, hme⟩ : ∃ m : Nat, 4 - k = m := ⟨_, rfl⟩
      have u4 : 4 - (k : Int) = (m : Int) := by omega
      have u4w := IntWalk.i64_in (m : Int) (by omega)
      obtain ⟨k2, hk2⟩ : ∃ k2 : Nat, k / 2 = k2 := ⟨_, rfl⟩
      have u2 : (k : Int).tdiv 2 = (k2 : Int) := by rw [Int.tdiv_eq_ediv_of_nonneg (by omega)]; omega
      have u2w := IntWalk.i64_in (k2 : Int) (by omega)
      obtain ⟨sg, hsg⟩ : ∃ c, hkSig s k msg = c := ⟨_, rfl⟩
      have zsg : sg.size = 4500 := by rw [← hsg, hkSig_size]
      have h7s : 7 < sg.size := by omega
      have h9s : 2283 < sg.size := by omega
      obtain ⟨b, hbe⟩ : ∃ b, UInt8.ofNat (k / 2) = b := ⟨_, rfl⟩
      have hbk : (b.toNat : Int) = (k2 : Int) := by
        have h256 : k / 2 < 256 := by omega
        rw [← hbe]
        simp
        omega
      have hix := str_byte sg 7 h7s 7 rfl
      have hsx : sg[7]'h7s = b := by
        subst hsg
        rw [(hkSig_at s k msg h9s h7s).2.1, hbe]
      rw [show sg.data.toList.getD 7 0 = b from by subst hsg; rw [(hkSig_at s k msg h9s h7s).1, hbe]] at hix
      have hlen8 : ¬ (sg.size : Int) < 8 := by omega
      have b07 : (7 : Int) < (sg.size : Int) := by omega
      have hSg := hid (fun W => hkSign s k hlt msg hm65 W)
      rw [hkc'.out, hsg] at hSg
      have hLk := hid (fun W => hLf.out k hk W)
      rw [hme] at hLk
      have hv := hid (fun W => show Calls Try.prog 25 #[.string pb, .string msg, .string sg] W fun e w' => e = .returned (.int .i64 0) ∧ Below W.heap.size W w' from by
        have e := hkVerify s k hlt msg hm65
        rw [hpb'.out, hsg] at e
        have hz := hVerify_any pb msg sg hm (by omega) W
        rw [e] at hz
        exact hz)
      have hCk := hid (hC.out k)
      have hCn := hid (hC.out (k + 1))
      have kn4 := hid (k4.out (k + 1))
      clear hsg zsg hbe hme hk2
      go_wp2_with (first
        | ((with_reducible refine at_slot (some 33) ?_); refine wpList_load_mid rfl 53 (.tmp 5) rfl q7 0 rfl (kc k) _ (by exact h_all hK0.out) Try.underlying53 rfl (by exact hCk.out.size') ?_)
        | fail)
      refine (hSg.out _).mono ?_
      rintro e W20 ⟨rfl, hb⟩
      have hB20 := hid (below_up hb hB0.out)
      have hK20 := hid (hK0.out.below hb hK0.out.lt)
      clear hb hB0 hK0
      go_wp2_with (first
        | ((with_reducible refine at_slot (some 10) ?_); refine wpList_run rfl (.pointer (some ⟨W20.heap.size, 0, none⟩)) (W20.alloc (.cells zk.toArray 53)) (by kernel_rfl) ?_)
        | ((with_reducible refine at_slot none ?_); refine wpList_store_mid rfl 53 (.tmp 10) (.tmp 37) rfl W20.heap.size 0 (kc (k + 1)).toArray rfl rfl (by exact hsk_there W20 _ hCn.out.len) (by exact hCn.out.size) (by exact hCn.out.one) ?_; generalize hW : World.setCells _ _ _ _ = W21; obtain ⟨hN, hb⟩ := hsk_new hCn.out.len hW; have hK21 := hid (hK20.out.below hb hK20.out.lt); have hB21 := hid (below_up hb hB20.out); have hN21 := hid hN; clear hb hK20 hB20 hN; clear hW)
        | fail)
      refine (hv.out _).mono ?_
      rintro e W22 ⟨rfl, hb⟩
      have hB22 := hid (below_up hb hB21.out)
      have hK22 := hid (hK21.out.below hb hK21.out.lt)
      have hN22 := hid (hN21.out.below hb hN21.out.lt)
      clear hb hB21 hK21 hN21
      have n4 := hN22.out.c 4 _ kn4.out
      go_wp2_with (first
        | (go_at_call 16; refine (errNum_any _ _).mono ?_; rintro e w' ⟨rfl, rfl⟩)
        | ((with_reducible refine at_slot (some 59) ?_); refine wpList_load_any_on (by kernel_rfl) 53 (.tmp 5) rfl ⟨q7, 0, none⟩ rfl (kc k) _ (by exact h_any hK22.out) Try.underlying53 rfl (by exact hCk.out.size') ?_)
        | fail)
      refine (hLk.out _).mono ?_
      rintro e W23 ⟨rfl, hb⟩
      have hB23 := hid (below_up hb hB22.out)
      have hK23 := hid (hK22.out.below hb hK22.out.lt)
      have hN23 := hid (hN22.out.below hb hN22.out.lt)
      clear hb hB22 hK22 hN22
      clear n4
      go_wp2_with (first
        | ((with_reducible refine at_slot (some 78) ?_); refine wpList_load_mid rfl 53 (.tmp 10) rfl W20.heap.size 0 rfl (kc (k + 1)) _ (by exact h_all hN23.out) Try.underlying53 rfl (by exact hCn.out.size') ?_)
        | ((with_reducible refine at_slot none ?_); refine wpList_store_mid rfl 53 (.tmp 5) (.tmp 78) rfl q7 0 (kc (k + 1)).toArray rfl rfl (by exact hK23.out.there 0 _ (by rw [List.size_toArray, hCn.out.len, hCk.out.len]; exact Nat.le_refl 5)) (by exact hCn.out.size) (by exact hCn.out.one) ?_; generalize hW : World.setCells _ _ _ _ = W30; have hK30 := hid (hK23.out.over (by rw [hCn.out.len, hCk.out.len]) hW); have hB30 := hid (below_put hB23.out hlw hW); clear hW)
        | fail)
      go_roundw
      case rel => exact ⟨k + 1, by omega, by go_num, hK30.out, hB30.out⟩
      case measure => simp [intOf]; omega
    · have hki : ¬ (k : Int) < 4 := by omega
      obtain rfl : k = 4 := by omega
      have hSp := hid (fun W => hkSpent s msg hm65 W)
      rw [hkc'.out] at hSp
      have hCk := hid (hC.out 4)
      have hCz := hid zhKey
      obtain ⟨kz, hkz⟩ : ∃ c, kc 4 = c := ⟨_, rfl⟩
      have hLz := hid (fun W => show Calls Try.prog 31 #[.agg (kc 4).toArray] W fun e w' => e = .returned (.int .i64 0) ∧ Below W.heap.size W w' from hLf.out 4 (Nat.le_refl _) W)
      rw [hkz] at hSp hCk hK0 hLz
      clear hkz
      go_wp2_with (first
        | ((with_reducible refine at_slot (some 80) ?_); refine wpList_load_mid rfl 53 (.tmp 5) rfl q7 0 rfl kz _ (by exact h_all hK0.out) Try.underlying53 rfl (by exact hCk.out.size') ?_)
        | fail)
      refine (hSp.out _).mono ?_
      rintro e W20 ⟨rfl, hb⟩
      have hB20 := hid (below_up hb hB0.out)
      have hK20 := hid (hK0.out.below hb hK0.out.lt)
      clear hb hB0 hK0
      go_wp2_with (first
        | ((with_reducible refine at_slot (some 14) ?_); refine wpList_run rfl (.pointer (some ⟨W20.heap.size, 0, none⟩)) (W20.alloc (.cells zk.toArray 53)) (by kernel_rfl) ?_)
        | ((with_reducible refine at_slot none ?_); refine wpList_store_mid rfl 53 (.tmp 14) (.tmp 84) rfl W20.heap.size 0 zk.toArray rfl rfl (by exact hsk_there W20 _ hCz.out.len) (by exact hCz.out.size) (by exact hCz.out.one) ?_; generalize hW : World.setCells _ _ _ _ = W21; obtain ⟨hN, hb⟩ := hsk_new hCz.out.len hW; have hK21 := hid (hK20.out.below hb hK20.out.lt); have hB21 := hid (below_up hb hB20.out); clear hb hK20 hB20 hN; clear hW)
        | (go_at_call 16; refine (errNum_any _ _).mono ?_; rintro e w' ⟨rfl, rfl⟩)
        | ((with_reducible refine at_slot (some 95) ?_); refine wpList_load_any_on (by kernel_rfl) 53 (.tmp 5) rfl ⟨q7, 0, none⟩ rfl kz _ (by exact h_any hK21.out) Try.underlying53 rfl (by exact hCk.out.size') ?_)
        | fail)
      refine (hLz.out _).mono ?_
      rintro e W22 ⟨rfl, hb⟩
      have hB22 := hid (below_up hb hB21.out)
      have hK22 := hid (hK21.out.below hb hK21.out.lt)
      clear hb hB21 hK21
      go_wp2_with fail
      go_ret
      exact ⟨rfl, hB22.out⟩

end Go.Proofs.Ytmfajekfipfjpaa
