/- Layer 5: LmsBack. -/
import Derived.Test.YtmfajekfipfjpaaLmKe
import Derived.Test.YtmfajekfipfjpaaLoadOn
namespace Go.Proofs.Ytmfajekfipfjpaa
open Go.RowKit
open Go.Lib (strCells strCells_length strCells_oneCell)
attribute [local irreducible] Sha.compress Sha.blocks Sha.sha Sha.pad

theorem kSig_three (s : ByteArray) (h q : Nat) (msg : ByteArray) (h3 : 3 < (kSig s h q msg).size) : (kSig s h q msg).data.toList.getD 3 0 = UInt8.ofNat q ∧ (kSig s h q msg)[3]'h3 = UInt8.ofNat q := by
  have e : (kSig s h q msg).data.toList = beL 4 q ++ (Ots.sign Ots.o4 3 (Ots.head (kId s).data.toList q) (kSeed s).data.toList msg.data.toList ++ (beL 4 (Lms.typ h) ++ (Lms.path (kId s).data.toList (Lms.keys Ots.o4 (kId s).data.toList (kSeed s).data.toList h) h 0 (2 ^ h + q)).flatten)) := by
    unfold kSig sigT Lms.signL
    rw [txt_list]
    simp only [List.append_assoc]
  have e2 : (kSig s h q msg).data.toList[3]? = some (UInt8.ofNat q) := by
    rw [e, List.getElem?_append_left (by rw [beL_length]; decide)]
    simp [beL]
  refine ⟨by rw [List.getD_eq_getElem?_getD, e2]; rfl, ?_⟩
  have h1 : 3 < (kSig s h q msg).data.size := h3
  rw [Array.getElem?_toList, Array.getElem?_eq_getElem h1] at e2
  exact Option.some.inj e2

set_option maxRecDepth 100000 in
set_option maxHeartbeats 2000000 in
theorem LmsBack_law {w : World} (s : ByteArray) (hs : s.size ≤ 140737488351232) (x : Int) (msg : ByteArray) (hm : msg.size ≤ 140737488351232) :
    Calls Try.prog 5 #[.string s, .int .i64 x, .string msg] w fun e w' => e = .returned (.bool true) ∧ Below w.heap.size w w' := by
  obtain ⟨h, hh⟩ : ∃ h, kh x = h := ⟨_, rfl⟩
  have hh12 : h = 1 ∨ h = 2 := by rw [← hh]; exact kh_two x
  have hp4 : 2 ^ h ≤ 4 := by rcases hh12 with rfl | rfl <;> decide
  obtain ⟨Z, hZ⟩ : ∃ Z : Int, ((2 ^ h : Nat) : Int) = Z := ⟨_, rfl⟩
  have hZw : IntKind.i64.wrap (2 ^ h) = Z := (shl_wrap h (by omega)).trans hZ
  have hKey := hid (fun W => show Calls Try.prog 20 #[.string s, .int .i64 x, .int .i64 0] W fun e w' => e = .returned (.agg (kCells s h 0).toArray) ∧ Below W.heap.size W w' from by rw [← hh]; exact Key_any s x hs W)
  obtain ⟨pb, hpb⟩ : ∃ c, kPub s h = c := ⟨_, rfl⟩
  obtain ⟨kc, hkc⟩ : ∃ kc : Nat → List Value, kCells s h = kc := ⟨_, rfl⟩
  have hPub := hid (fun q (hq : q ≤ 2 ^ h) W => kPublic s h q hh12 hq W)
  rw [hpb] at hPub
  have hC := hid (fun q => kKey s h q)
  have k1 := hid (fun q => show (kCells s h q)[1]? = some (.int .i64 (h : Int)) from rfl)
  have k4 := hid (fun q => show (kCells s h q)[4]? = some (.int .i64 ((q : Nat) : Int)) from rfl)
  rw [hkc] at hKey hPub hC k1 k4
  have hpb' := hid hpb
  have hkc' := hid hkc
  have hZZ := hid hZ
  clear hh hpb hkc hZ
  go_enter Try.func5, Try.ntmps5
  go_wp2_with fail
  refine (awake5_any _).mono ?_
  rintro e W1 ⟨rfl, hb⟩
  have hB1 := hid hb
  clear hb
  go_wp2_with fail
  refine (hKey.out _).mono ?_
  rintro e W2 ⟨rfl, hb⟩
  have hB2 := hid (below_up hb hB1.out)
  clear hb hB1
  have hC0 := hid (hC.out 0)
  have hle := hid (show w.heap.size ≤ W2.heap.size from hB2.out.size)
  by_cases hbig : 65536 < msg.size
  · have hbi : (65536 : Int) < (msg.size : Int) := by omega
    go_wp2_with (first
      | ((with_reducible refine at_slot (some 7) ?_); refine wpList_run rfl (.pointer (some ⟨W2.heap.size, 0, none⟩)) (W2.alloc (.cells zk.toArray 23)) (by kernel_rfl) ?_)
      | ((with_reducible refine at_slot none ?_); refine wpList_store_mid rfl 23 (.tmp 7) (.tmp 24) rfl W2.heap.size 0 (kc 0).toArray rfl rfl (by exact key_there W2 _ hC0.out.len) (by exact hC0.out.size) (by exact hC0.out.one) ?_; generalize hW : World.setCells _ _ _ _ = W3; obtain ⟨hN, hb⟩ := key_new hC0.out.len hW; have hB3 := hid (below_up hb hB2.out); have hK3 := hid hN; clear hb hB2 hN; clear hW)
      | fail)
    go_ret
    exact ⟨rfl, hB3.out⟩
  have hbi : ¬ (65536 : Int) < (msg.size : Int) := by omega
  have hm65 : msg.size ≤ 65536 := by omega
  go_wp2_with (first
    | ((with_reducible refine at_slot (some 7) ?_); refine wpList_run rfl (.pointer (some ⟨W2.heap.size, 0, none⟩)) (W2.alloc (.cells zk.toArray 23)) (by kernel_rfl) ?_)
    | ((with_reducible refine at_slot none ?_); refine wpList_store_mid rfl 23 (.tmp 7) (.tmp 24) rfl W2.heap.size 0 (kc 0).toArray rfl rfl (by exact key_there W2 _ hC0.out.len) (by exact hC0.out.size) (by exact hC0.out.one) ?_; generalize hW : World.setCells _ _ _ _ = W3; obtain ⟨hN, hb⟩ := key_new hC0.out.len hW; have hB3 := hid (below_up hb hB2.out); have hK3 := hid hN; clear hb hB2 hN; clear hW)
    | ((with_reducible refine at_slot (some 29) ?_); refine wpList_load_mid rfl 23 (.tmp 7) rfl W2.heap.size 0 rfl (kc 0) _ (by exact h_all hK3.out) Try.underlying23 rfl (by exact hC0.out.size') ?_)
    | fail)
  refine (hPub.out 0 (Nat.zero_le _) _).mono ?_
  rintro e W4 ⟨rfl, hb⟩
  have hB4 := hid (below_up hb hB3.out)
  have hK4 := hid (hK3.out.below hb hK3.out.lt)
  clear hb hB3 hK3
  go_wp2_with fail
  obtain ⟨q7, hq7⟩ : ∃ q, W2.heap.size = q := ⟨_, rfl⟩
  rw [hq7] at hK4 ⊢
  have hlw : w.heap.size ≤ q7 := by rw [← hq7]; exact hle.out
  go_loopw [10] (fun i wr => ∃ k : Nat, k ≤ 2 ^ h ∧ i = .int .i64 (k : Int) ∧ Holds wr q7 23 (kc k) ∧ Below w.heap.size w wr) (fun i _ => 4 - (intOf i).toNat)
  case atStart => exact ⟨0, Nat.zero_le _, rfl, hK4.out, hB4.out⟩
  case round =>
    obtain ⟨k, hk, rfl, hKr, hBr⟩ := hrel
    have hK0 := hid hKr
    have hB0 := hid hBr
    have c1 := hKr.c 1 _ (k1.out k)
    clear hKr hBr
    by_cases hlt : k < 2 ^ h
    · have hki : (k : Int) < Z := by have := hZZ.out; omega
      have ukw := IntWalk.i64_in ((k : Int) + 1) (by omega)
      obtain ⟨sg, hsg⟩ : ∃ c, kSig s h k msg = c := ⟨_, rfl⟩
      have zsg : sg.size = 2188 + 32 * h := by rw [← hsg, kSig_size]
      have h3s : 3 < sg.size := by omega
      obtain ⟨b, hbe⟩ : ∃ b, UInt8.ofNat k = b := ⟨_, rfl⟩
      have hbk : (b.toNat : Int) = (k : Int) := by
        have h256 : k < 256 := by omega
        rw [← hbe]
        simp
        omega
      have hix := str_byte sg 3 h3s 3 rfl
      have hsx : sg[3]'h3s = b := by
        subst hsg
        rw [(kSig_three s h k msg h3s).2, hbe]
      rw [show sg.data.toList.getD 3 0 = b from by subst hsg; rw [(kSig_three s h k msg h3s).1, hbe]] at hix
      have hlen4 : ¬ (sg.size : Int) < 4 := by omega
      have b03 : (3 : Int) < (sg.size : Int) := by omega
      have hSg := hid (fun W => kSign s h k hh12 hlt msg hm65 W)
      rw [hkc'.out, hsg] at hSg
      have hv := hid (fun W => show Calls Try.prog 18 #[.string pb, .string msg, .string sg] W fun e w' => e = .returned (.int .i64 0) ∧ Below W.heap.size W w' from by
        have e := kVerify s h k hh12 hlt msg hm65
        rw [hpb'.out, hsg] at e
        have hz := Verify_any pb msg sg hm (by omega) W
        rw [e] at hz
        exact hz)
      have hCk := hid (hC.out k)
      have hCn := hid (hC.out (k + 1))
      have kn4 := hid (k4.out (k + 1))
      have hC1c := c1
      clear hsg zsg hbe
      go_wp2_with (first
        | ((with_reducible refine at_slot (some 41) ?_); refine wpList_load_mid rfl 23 (.tmp 7) rfl q7 0 rfl (kc k) _ (by exact h_all hK0.out) Try.underlying23 rfl (by exact hCk.out.size') ?_)
        | fail)
      refine (hSg.out _).mono ?_
      rintro e W20 ⟨rfl, hb⟩
      have hK20 := hid (hK0.out.below hb hK0.out.lt)
      have hB20 := hid (below_up hb hB0.out)
      clear hb c1 hC1c
      go_wp2_with (first
        | ((with_reducible refine at_slot (some 12) ?_); refine wpList_run rfl (.pointer (some ⟨W20.heap.size, 0, none⟩)) (W20.alloc (.cells zk.toArray 23)) (by kernel_rfl) ?_)
        | ((with_reducible refine at_slot none ?_); refine wpList_store_mid rfl 23 (.tmp 12) (.tmp 45) rfl W20.heap.size 0 (kc (k + 1)).toArray rfl rfl (by exact key_there W20 _ hCn.out.len) (by exact hCn.out.size) (by exact hCn.out.one) ?_; generalize hW : World.setCells _ _ _ _ = W21; obtain ⟨hN, hb⟩ := key_new hCn.out.len hW; have hK21 := hid (hK20.out.below hb hK20.out.lt); have hB21 := hid (below_up hb hB20.out); have hN21 := hid hN; clear hb hK20 hB20 hN; have n4 := hN21.out.c 4 _ kn4.out; clear hW)
        | (go_at_call 16; refine (errNum_any _ _).mono ?_; rintro e w' ⟨rfl, rfl⟩)
        | fail)
      refine (hv.out _).mono ?_
      rintro e W22 ⟨rfl, hb⟩
      have hK22 := hid (hK21.out.below hb hK21.out.lt)
      have hB22 := hid (below_up hb hB21.out)
      have hN22 := hid (hN21.out.below hb hN21.out.lt)
      clear hb hK21 hB21 hN21
      skip
      go_wp2_with (first
        | (go_at_call 16; refine (errNum_any _ _).mono ?_; rintro e w' ⟨rfl, rfl⟩)
        | ((with_reducible refine at_slot (some 76) ?_); refine wpList_load_mid rfl 23 (.tmp 12) rfl W20.heap.size 0 rfl (kc (k + 1)) _ (by exact h_all hN22.out) Try.underlying23 rfl (by exact hCn.out.size') ?_)
        | ((with_reducible refine at_slot none ?_); refine wpList_store_mid rfl 23 (.tmp 7) (.tmp 76) rfl q7 0 (kc (k + 1)).toArray rfl rfl (by exact hK22.out.there 0 _ (by rw [List.size_toArray, hCn.out.len, hCk.out.len]; exact Nat.le_refl 5)) (by exact hCn.out.size) (by exact hCn.out.one) ?_; generalize hW : World.setCells _ _ _ _ = W30; have hK30 := hid (hK22.out.over (by rw [hCn.out.len, hCk.out.len]) hW); have hB30 := hid (below_put hB22.out hlw hW); clear hW)
        | fail)
      skip
      go_roundw
      case rel => exact ⟨k + 1, by omega, by go_num, hK30.out, hB30.out⟩
      case measure => simp [intOf]; omega
    · have hki : ¬ (k : Int) < Z := by have := hZZ.out; omega
      obtain rfl : k = 2 ^ h := by omega
      have hSp := hid (fun W => kSpent s h hh12 msg hm65 W)
      rw [hkc'.out] at hSp
      have hCk := hid (hC.out (2 ^ h))
      have hCz := hid zKey
      obtain ⟨kz, hkz⟩ : ∃ c, kc (2 ^ h) = c := ⟨_, rfl⟩
      have hPz := hid (fun W => hPub.out (2 ^ h) (Nat.le_refl _) W)
      rw [hkz] at hSp hCk hK0 hPz
      clear hkz
      go_wp2_with (first
        | ((with_reducible refine at_slot (some 78) ?_); refine wpList_load_mid rfl 23 (.tmp 7) rfl q7 0 rfl kz _ (by exact h_all hK0.out) Try.underlying23 rfl (by exact hCk.out.size') ?_)
        | fail)
      refine (hSp.out _).mono ?_
      rintro e W20 ⟨rfl, hb⟩
      have hK20 := hid (hK0.out.below hb hK0.out.lt)
      have hB20 := hid (below_up hb hB0.out)
      clear hb c1
      go_wp2_with (first
        | ((with_reducible refine at_slot (some 16) ?_); refine wpList_run rfl (.pointer (some ⟨W20.heap.size, 0, none⟩)) (W20.alloc (.cells zk.toArray 23)) (by kernel_rfl) ?_)
        | ((with_reducible refine at_slot none ?_); refine wpList_store_mid rfl 23 (.tmp 16) (.tmp 82) rfl W20.heap.size 0 zk.toArray rfl rfl (by exact key_there W20 _ hCz.out.len) (by exact hCz.out.size) (by exact hCz.out.one) ?_; generalize hW : World.setCells _ _ _ _ = W21; obtain ⟨hN, hb⟩ := key_new hCz.out.len hW; have hK21 := hid (hK20.out.below hb hK20.out.lt); have hB21 := hid (below_up hb hB20.out); have hN21 := hid hN; clear hb hK20 hB20 hN; clear hW)
        | ((with_reducible refine at_slot (some 85) ?_); refine wpList_load_mid rfl 23 (.tmp 7) rfl q7 0 rfl kz _ (by exact h_all hK21.out) Try.underlying23 rfl (by exact hCk.out.size') ?_)
        | fail)
      refine (hPz.out _).mono ?_
      rintro e W22 ⟨rfl, hb⟩
      have hK22 := hid (hK21.out.below hb hK21.out.lt)
      have hB22 := hid (below_up hb hB21.out)
      have hN22 := hid (hN21.out.below hb hN21.out.lt)
      clear hb hK21 hB21 hN21
      go_wp2_with (first
        | (go_at_call 16; refine (errNum_any _ _).mono ?_; rintro e w' ⟨rfl, rfl⟩)
        | fail)
      go_ret
      exact ⟨rfl, hB22.out⟩

end Go.Proofs.Ytmfajekfipfjpaa
