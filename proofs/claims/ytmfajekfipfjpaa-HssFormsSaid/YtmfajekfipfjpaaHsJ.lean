/- Layer 6: HssParts. -/
import Derived.Test.YtmfajekfipfjpaaHsI
namespace Go.Proofs.Ytmfajekfipfjpaa
open Go.RowKit
open Go.Lib (strCells strCells_length strCells_oneCell)
attribute [local irreducible] Sha.compress Sha.blocks Sha.sha Sha.pad

theorem kq_small (n : Nat) (h : n ≤ 4) : kq (n : Int) = n := by
  have e : IntKind.u64.wrap (n : Int) = (n : Int) % 18446744073709551616 := rfl
  have e2 : (n : Int) % 18446744073709551616 = (n : Int) := by omega
  unfold kq
  rw [e, e2]
  omega
/-- A signature's parts, a public key's. -/
structure Cut6 (s : ByteArray) (q : Nat) (msg P A L B : ByteArray) : Prop where
  pub : hkPub s = be 4 2 ++ P
  sig : hkSig s q msg = be 4 1 ++ (A ++ (L ++ B))
  zP : P.size = 56
  zA : A.size = 2220
  zL : L.size = 56
  zB : B.size = 2220
  okP : slOk P.data.toList = true
  lenP : slLen P.data.toList = 2220
  okL : slOk L.data.toList = true
  lenL : slLen L.data.toList = 2220
  first : Lms.verify P.data.toList L.data.toList A.data.toList = 0
  second : msg.size ≤ 65536 → Lms.verify L.data.toList msg.data.toList B.data.toList = 0
theorem cut6 (s : ByteArray) (q : Nat) (hq : q < 4) (msg : ByteArray) : ∃ P A L B, Cut6 s q msg P A L B := by
  obtain ⟨sa, sb⟩ := sl_pub Ots.o4 3 1 hpar3 (by decide) (by decide) (hId s) (hSeed s) (hId_size s)
  obtain ⟨la, lb⟩ := sl_pub Ots.o4 3 1 hpar3 (by decide) (by decide) (lowId (hId s) (hSeed s) (q / 2)) (lowSeed (hId s) (hSeed s) (q / 2)) (lowId_size _ _ _)
  have hLz : (lowPubT Ots.o4 3 1 (hId s) (hSeed s) (q / 2)).size = 56 := pubT_size Ots.o4 3 1 _ _ (lowId_size _ _ _)
  refine ⟨pubT Ots.o4 3 1 (hId s) (hSeed s), sigT Ots.o4 3 1 (hId s) (hSeed s) (q / 2) (lowPubT Ots.o4 3 1 (hId s) (hSeed s) (q / 2)), lowPubT Ots.o4 3 1 (hId s) (hSeed s) (q / 2), sigT Ots.o4 3 1 (lowId (hId s) (hSeed s) (q / 2)) (lowSeed (hId s) (hSeed s) (q / 2)) (q % 2) msg, rfl, ?_, pubT_size _ _ _ _ _ (hId_size s), sig_size _ _ _ _ _ _ _, hLz, sig_size _ _ _ _ _ _ _, sa, sb, la, lb, ?_, fun hm => ?_⟩
  · unfold hkSig hSigT
    refine hb_ext ?_
    simp only [data_append, List.append_assoc]
  · exact Lms.verify_ok Ots.o4 3 1 _ _ (q / 2) _ hpar3 (by decide) (by decide) (by decide) (by rw [data_length]; exact hId_size s) (by omega) (by rw [data_length, hLz]; decide)
  · exact Lms.verify_ok Ots.o4 3 1 _ _ (q % 2) _ hpar3 (by decide) (by decide) (by decide) (by rw [data_length]; exact lowId_size _ _ _) (by omega) (by rw [data_length]; exact hm)
theorem be_cut (x : Nat) (t : ByteArray) : (be 4 x ++ t).extract 0 4 = be 4 x ∧ (be 4 x ++ t).extract 4 (be 4 x ++ t).size = t := by
  have l4 := beL_length 4 x
  have l4 : (be 4 x).data.toList.length = 4 := l4
  refine ⟨hb_ext ?_, hb_ext ?_⟩
  · rw [cut_mid, data_append, List.drop_zero]
    exact List.take_left' l4
  · rw [cut_mid, data_append, List.drop_left' l4, ByteArray.size_append, be_size, Nat.add_sub_cancel_left, ← data_length]
    exact List.take_length
theorem cut6_cuts (A L B : ByteArray) (zA : A.size = 2220) (zL : L.size = 56) (zB : B.size = 2220) : (be 4 1 ++ (A ++ (L ++ B))).extract 4 2224 = A ∧ (be 4 1 ++ (A ++ (L ++ B))).extract 2224 2280 = L ∧ (be 4 1 ++ (A ++ (L ++ B))).extract 2280 (be 4 1 ++ (A ++ (L ++ B))).size = B := by
  have l4 : (be 4 1).data.toList.length = 4 := beL_length 4 1
  have la : A.data.toList.length = 2220 := by rw [data_length]; exact zA
  have ll : L.data.toList.length = 56 := by rw [data_length]; exact zL
  have lb : B.data.toList.length = 2220 := by rw [data_length]; exact zB
  refine ⟨hb_ext ?_, hb_ext ?_, hb_ext ?_⟩
  · rw [cut_mid, data_append, data_append, List.drop_left' l4]
    exact List.take_left' la
  · rw [cut_mid, data_append, data_append, data_append, show 2224 = 4 + 2220 from rfl, ← List.drop_drop, List.drop_left' l4, List.drop_left' la]
    exact List.take_left' ll
  · rw [cut_mid, data_append, data_append, data_append, show (2280 : Nat) = 4 + (2220 + 56) from rfl, ← List.drop_drop, List.drop_left' l4, ← List.drop_drop, List.drop_left' la, List.drop_left' ll, ByteArray.size_append, ByteArray.size_append, ByteArray.size_append, be_size, zA, zL, zB, show 4 + (2220 + (56 + 2220)) - (4 + (2220 + 56)) = 2220 from rfl, ← lb]
    exact List.take_length

set_option maxRecDepth 100000 in
set_option maxHeartbeats 1000000 in
theorem HssParts_law {w : World} (s : ByteArray) (hs : s.size ≤ 140737488351232) (x : Int) (msg : ByteArray) (hm : msg.size ≤ 140737488351232) :
    Calls Try.prog 10 #[.string s, .int .i64 x, .string msg] w fun e w' => e = .returned (.bool true) ∧ Below w.heap.size w w' := by
  obtain ⟨n, hn4, hne⟩ : ∃ n : Nat, n < 4 ∧ (IntKind.u64.wrap x).tmod 4 = (n : Int) := by
    have e : IntKind.u64.wrap x = x % 18446744073709551616 := rfl
    refine ⟨((x % 18446744073709551616) % 4).toNat, by omega, ?_⟩
    rw [e, Int.tmod_eq_emod_of_nonneg (by omega)]
    omega
  have hKey := hid (fun W => show Calls Try.prog 28 #[.string s, .int .i64 (n : Int)] W fun e w' => e = .returned (.agg (hCells s n).toArray) ∧ Below W.heap.size W w' from by
    have h := Key6_any s (n : Int) hs W
    rw [kq_small n (by omega)] at h
    exact h)
  have uq : IntKind.u64.wrap (n : Int) = (n : Int) := by
    have e : IntKind.u64.wrap (n : Int) = (n : Int) % 18446744073709551616 := rfl
    omega
  have uq2 := IntWalk.i64_in (n : Int) (by omega)
  obtain ⟨pb, hpb⟩ : ∃ c, hkPub s = c := ⟨_, rfl⟩
  obtain ⟨kc, hkc⟩ : ∃ kc, hCells s n = kc := ⟨_, rfl⟩
  have hPub := hid (fun W => hkPublic s n (by omega) W)
  have hC := hid (hkKey s n)
  have k4 := hid (show (hCells s n)[4]? = some (.int .i64 (n : Int)) from rfl)
  rw [hpb] at hPub
  rw [hkc] at hKey hPub hC k4
  have hBig := hid (fun (hb : 65536 < msg.size) W => show Calls Try.prog 30 #[.agg (hCells s n).toArray, .string msg] W fun e w' => e = .returned (.tuple #[.string ⟨#[]⟩, .agg zk.toArray, .int .i64 600]) ∧ Below W.heap.size W w' from hSign_bad2 3 1 (hId s) (hSeed s) (n : Int) (hkOk s n (by omega)) msg hb W)
  rw [hkc] at hBig
  have hpb' := hid hpb
  have hkc' := hid hkc
  clear hpb hkc
  go_enter Try.func10, Try.ntmps10
  go_wp2_with fail
  refine (awake6_any _).mono ?_
  rintro e W1 ⟨rfl, hb⟩
  have hB1 := hid hb
  clear hb
  go_wp2_with fail
  refine (hKey.out _).mono ?_
  rintro e W2 ⟨rfl, hb⟩
  have hB2 := hid (below_up hb hB1.out)
  clear hb hB1
  have hle := hid (show w.heap.size ≤ W2.heap.size from hB2.out.size)
  clear hne uq uq2
  go_wp2_with (first
    | ((with_reducible refine at_slot (some 7) ?_); refine wpList_run rfl (.pointer (some ⟨W2.heap.size, 0, none⟩)) (W2.alloc (.cells zk.toArray 53)) (by kernel_rfl) ?_)
    | ((with_reducible refine at_slot none ?_); refine wpList_store_mid rfl 53 (.tmp 7) (.tmp 24) rfl W2.heap.size 0 kc.toArray rfl rfl (by exact hsk_there W2 _ hC.out.len) (by exact hC.out.size) (by exact hC.out.one) ?_; generalize hW : World.setCells _ _ _ _ = W3; obtain ⟨hN, hb⟩ := hsk_new hC.out.len hW; have hB3 := hid (below_up hb hB2.out); have hK3 := hid hN; clear hb hB2 hN; clear hW)
    | ((with_reducible refine at_slot (some 26) ?_); refine wpList_load_mid rfl 53 (.tmp 7) rfl W2.heap.size 0 rfl kc _ (by exact h_all hK3.out) Try.underlying53 rfl (by exact hC.out.size') ?_)
    | fail)
  refine (hPub.out _).mono ?_
  rintro e W4 ⟨rfl, hb⟩
  have hB4 := hid (below_up hb hB3.out)
  have hK4 := hid (hK3.out.below hb hK3.out.lt)
  clear hb hB3 hK3
  obtain ⟨q7, hq7⟩ : ∃ q, W2.heap.size = q := ⟨_, rfl⟩
  rw [hq7] at hK4 ⊢
  clear hq7 hle
  go_wp2_with (first
    | ((with_reducible refine at_slot (some 31) ?_); refine wpList_load_mid rfl 53 (.tmp 7) rfl q7 0 rfl kc _ (by exact h_all hK4.out) Try.underlying53 rfl (by exact hC.out.size') ?_)
    | fail)
  by_cases hbig : 65536 < msg.size
  · have hbi : (65536 : Int) < (msg.size : Int) := by omega
    have hCz := hid zhKey
    refine (hBig.out hbig _).mono ?_
    rintro e W5 ⟨rfl, hb⟩
    have hB5 := hid (below_up hb hB4.out)
    clear hb hB4
    go_wp2_with (first
      | ((with_reducible refine at_slot (some 11) ?_); refine wpList_run rfl (.pointer (some ⟨W5.heap.size, 0, none⟩)) (W5.alloc (.cells zk.toArray 53)) (by kernel_rfl) ?_)
      | ((with_reducible refine at_slot none ?_); refine wpList_store_mid rfl 53 (.tmp 11) (.tmp 35) rfl W5.heap.size 0 zk.toArray rfl rfl (by exact hsk_there W5 _ hCz.out.len) (by exact hCz.out.size) (by exact hCz.out.one) ?_; generalize hW : World.setCells _ _ _ _ = W6; obtain ⟨hN, hb⟩ := hsk_new hCz.out.len hW; have hB6 := hid (below_up hb hB5.out); clear hb hB5 hN; clear hW)
      | (go_at_call 16; refine (errNum_any _ _).mono ?_; rintro e w' ⟨rfl, rfl⟩)
      | fail)
    go_ret
    exact ⟨rfl, hB6.out⟩
  have hm65 : msg.size ≤ 65536 := by omega
  have hSg := hid (fun W => hkSign s n hn4 msg hm65 W)
  obtain ⟨P, A, L, B, hCut⟩ := cut6 s n hn4 msg
  have hat := hid (fun h9 h7 => hkSig_at s n msg h9 h7)
  have zs : (hkSig s n msg).size = 4500 := hkSig_size s n msg
  have zp : (hkPub s).size = 60 := hkPub_size s
  have hsg0 := hCut.sig
  have hpb0 := hCut.pub
  rw [hpb'.out] at hpb0 zp
  obtain ⟨sg, hsg⟩ : ∃ c, hkSig s n msg = c := ⟨_, rfl⟩
  rw [hkc'.out, hsg] at hSg
  rw [hsg] at zs hsg0 hat
  obtain ⟨kn, hkn⟩ : ∃ c, hCells s (n + 1) = c := ⟨_, rfl⟩
  rw [hkn] at hSg
  have hN := hid (hkn ▸ hkKey s (n + 1) : KeyH kn)
  have x1 : pb.extract 4 pb.size = P := by rw [hpb0]; exact (be_cut 2 P).2
  have x2 : pb.extract 0 4 = ⟨#[0, 0, 0, 2]⟩ := by rw [hpb0]; exact (be_cut 2 P).1
  have x3 : sg.extract 0 4 = ⟨#[0, 0, 0, 1]⟩ := by rw [hsg0]; exact (be_cut 1 _).1
  obtain ⟨y1, y2, y3⟩ := cut6_cuts A L B hCut.zA hCut.zL hCut.zB
  have x4 : sg.extract 4 2224 = A := by rw [hsg0]; exact y1
  have x5 : sg.extract 2224 2280 = L := by rw [hsg0]; exact y2
  have x6 : sg.extract 2280 sg.size = B := by rw [hsg0]; exact y3
  have hV1 := hid (fun W => show Calls Try.prog 18 #[.string P, .string L, .string A] W fun e w' => e = .returned (.int .i64 0) ∧ Below W.heap.size W w' from by
    have h := Verify_any P L A (by rw [hCut.zL]; decide) (by rw [hCut.zA]; decide) W
    rw [hCut.first] at h
    exact h)
  have hV2 := hid (fun W => show Calls Try.prog 18 #[.string L, .string msg, .string B] W fun e w' => e = .returned (.int .i64 0) ∧ Below W.heap.size W w' from by
    have h := Verify_any L msg B hm (by rw [hCut.zB]; decide) W
    rw [hCut.second hm65] at h
    exact h)
  have h7s : 7 < sg.size := by omega
  have h9s : 2283 < sg.size := by omega
  obtain ⟨g1, g2, g3, g4⟩ := hat.out h9s h7s
  obtain ⟨b1, hb1⟩ : ∃ b, UInt8.ofNat (n / 2) = b := ⟨_, rfl⟩
  obtain ⟨b2, hb2⟩ : ∃ b, UInt8.ofNat (n % 2) = b := ⟨_, rfl⟩
  obtain ⟨n2, hn2⟩ : ∃ k : Nat, n / 2 = k := ⟨_, rfl⟩
  obtain ⟨n1, hn1⟩ : ∃ k : Nat, n % 2 = k := ⟨_, rfl⟩
  have c1 : (b1.toNat : Int) = (n2 : Int) := by rw [← hb1]; simp; omega
  have c2 : (b2.toNat : Int) = (n1 : Int) := by rw [← hb2]; simp; omega
  have u2 : (n : Int).tdiv 2 = (n2 : Int) := by rw [Int.tdiv_eq_ediv_of_nonneg (by omega)]; omega
  have u1 : (n : Int).tmod 2 = (n1 : Int) := by rw [Int.tmod_eq_emod_of_nonneg (by omega)]; omega
  have w2 := IntWalk.i64_in (n2 : Int) (by omega)
  have w1 := IntWalk.i64_in (n1 : Int) (by omega)
  rw [hb1] at g1 g2
  rw [hb2] at g3 g4
  have ix1 := str_byte sg 7 h7s 7 rfl
  have ix2 := str_byte sg 2283 h9s 2283 rfl
  rw [g1] at ix1
  rw [g3] at ix2
  have zsi : ((sg.size : Int) != 4500) = false := by rw [zs]; rfl
  have zpi : ((pb.size : Int) != 60) = false := by rw [zp]; rfl
  have q1 : (4 : Int) ≤ (pb.size : Int) := by omega
  have q2 : (4 : Int) ≤ (sg.size : Int) := by omega
  have q3 : (2224 : Int) ≤ (sg.size : Int) := by omega
  have q4 : (2280 : Int) ≤ (sg.size : Int) := by omega
  have q5 : (7 : Int) < (sg.size : Int) := by omega
  have q6 : (2283 : Int) < (sg.size : Int) := by omega
  have v1 : IntKind.i64.wrap 2224 = 2224 := by decide
  have v2 : IntKind.i64.wrap 2280 = 2280 := by decide
  have v3 : IntKind.i64.wrap 2283 = 2283 := by decide
  clear zs zp hsg hkn hsg0 hpb0 hCut hat y1 y2 y3 hb1 hb2 hn1 hn2 hbig g1 g3
  refine (hSg.out _).mono ?_
  rintro e W5 ⟨rfl, hb⟩
  have hB5 := hid (below_up hb hB4.out)
  have hK5 := hid (hK4.out.below hb hK4.out.lt)
  clear hb hB4 hK4
  go_wp2_with (first
    | ((with_reducible refine at_slot (some 11) ?_); refine wpList_run rfl (.pointer (some ⟨W5.heap.size, 0, none⟩)) (W5.alloc (.cells zk.toArray 53)) (by kernel_rfl) ?_)
    | ((with_reducible refine at_slot none ?_); refine wpList_store_mid rfl 53 (.tmp 11) (.tmp 35) rfl W5.heap.size 0 kn.toArray rfl rfl (by exact hsk_there W5 _ hN.out.len) (by exact hN.out.size) (by exact hN.out.one) ?_; generalize hW : World.setCells _ _ _ _ = W6; obtain ⟨-, hb⟩ := hsk_new hN.out.len hW; have hB6 := hid (below_up hb hB5.out); have hK6 := hid (hK5.out.below hb hK5.out.lt); clear hb hB5 hK5; clear hW)
    | (go_at_call 16; refine (errNum_any _ _).mono ?_; rintro e w' ⟨rfl, rfl⟩)
    | fail)
  have hb : Below W6.heap.size W6 W6.drew := (Below.refl _ _).drew
  have hB7 := hid (below_up hb hB6.out)
  have hK7 := hid (hK6.out.below hb hK6.out.lt)
  clear hb hB6 hK6
  refine wp_region_held_drew (S := fun V => Holds V q7 53 kc) (by kernel_rfl) (by exact hK7.out) (fun hHeld => ?_)
  generalize W6.drew = W7 at *
  refine tkn 0 (.string pb) rfl (by kernel_rfl) (fun _ _ _ h => h) (yieldsIf_move _ rfl rfl rfl) hHeld ?_
  simp only [ly, Act.put]
  refine tkn 1 (.string P) rfl (by kernel_rfl) (fun _ _ _ h => h) (.inl ⟨by kernel_rfl, fun w _ => by go_simp⟩) hHeld ?_
  simp only [ly, Act.put]
  refine tkn 2 (.string L) rfl (by kernel_rfl) (fun _ _ _ h => h) (yieldsIf_move _ rfl rfl rfl) hHeld ?_
  simp only [ly, Act.put]
  refine tkn 3 (.string sg) rfl (by kernel_rfl) (fun _ _ _ h => h) (yieldsIf_move _ rfl rfl rfl) hHeld ?_
  simp only [ly, Act.put]
  refine tkn 4 (.int .i64 2220) rfl (by kernel_rfl) (fun _ _ _ h => h) (yieldsIf_move _ rfl rfl rfl) hHeld ?_
  simp only [ly, Act.put]
  refine tkn 5 (.int .i64 2224) rfl (by kernel_rfl) (fun _ _ _ h => h) (.inl ⟨by kernel_rfl, fun w _ => by go_simp⟩) hHeld ?_
  simp only [ly, Act.put]
  refine tkn 6 (.string A) rfl (by kernel_rfl) (fun _ _ _ h => h) (.inl ⟨by kernel_rfl, fun w _ => by go_simp⟩) hHeld ?_
  simp only [ly, Act.put]
  refine wpAnyH_ready (rs := [7]) (by kernel_rfl) (by simp) (AllReadyH.cons rfl (fun K hK => ?_) AllReadyH.nil)
  have hK' := hid hK
  clear hK
  rw [if_pos (by kernel_rfl)]
  simp only [ly1, ly2, ly3]
  go_simp
  refine (hV1.out _).mono ?_
  rintro e W8 ⟨rfl, hb⟩
  have hB8 := hid (below_up hb hB7.out)
  have hK8 := hid (hK7.out.below hb hK7.out.lt)
  clear hb hB7 hK7
  refine hK'.out _ _ (by exact hK8.out) (fun hHeld => ?_)
  clear hK' K
  refine tkn 8 (.int .i64 0) rfl (by kernel_rfl) (fun _ _ _ h => h) (yieldsIf_assign _ rfl rfl rfl) hHeld ?_
  simp only [ly, Act.put]
  refine wpAnyH_done (by kernel_rfl) ?_ _
  go_wp2_with fail
  refine (hV2.out _).mono ?_
  rintro e W9 ⟨rfl, hb⟩
  have hB9 := hid (below_up hb hB8.out)
  have hK9 := hid (hK8.out.below hb hK8.out.lt)
  clear hb hB8 hK8
  go_wp2_with fail
  have hb : Below W9.heap.size W9 W9.drew := (Below.refl _ _).drew
  have hB10 := hid (below_up hb hB9.out)
  have hK10 := hid (hK9.out.below hb hK9.out.lt)
  clear hb hB9 hK9
  refine wp_region_held_drew (S := fun V => Holds V q7 53 kc) (by kernel_rfl) (by exact hK10.out) (fun hHeld => ?_)
  generalize W9.drew = W10 at *
  refine tkn 0 (.string pb) rfl (by kernel_rfl) (fun _ _ _ h => h) (yieldsIf_move _ rfl rfl rfl) hHeld ?_
  simp only [ly, Act.put]
  refine tkn 1 (.string ⟨#[0, 0, 0, 2]⟩) rfl (by kernel_rfl) (fun _ _ _ h => h) (.inl ⟨by kernel_rfl, fun w _ => by go_simp⟩) hHeld ?_
  simp only [ly, Act.put]
  refine tkn 2 (.bool true) rfl (by kernel_rfl) (fun _ _ _ h => h) (.inl ⟨by kernel_rfl, fun w _ => by go_simp⟩) hHeld ?_
  simp only [ly, Act.put]
  refine tkn 3 (.bool true) rfl (by kernel_rfl) (fun _ _ _ h => h) (yieldsIf_move _ rfl rfl rfl) hHeld ?_
  simp only [ly, Act.put]
  refine tkn 4 (.string sg) rfl (by kernel_rfl) (fun _ _ _ h => h) (.inl ⟨by kernel_rfl, fun w _ => by go_simp⟩) hHeld ?_
  simp only [ly, Act.put]
  refine tkn 5 (.string ⟨#[0, 0, 0, 1]⟩) rfl (by kernel_rfl) (fun _ _ _ h => h) (.inl ⟨by kernel_rfl, fun w _ => by go_simp⟩) hHeld ?_
  simp only [ly, Act.put]
  refine tkn 6 (.bool true) rfl (by kernel_rfl) (fun _ _ _ h => h) (.inl ⟨by kernel_rfl, fun w _ => by go_simp⟩) hHeld ?_
  simp only [ly, Act.put]
  refine tkn 7 (.bool true) rfl (by kernel_rfl) (fun _ _ _ h => h) (yieldsIf_pick _ _ _ rfl rfl rfl rfl) hHeld ?_
  simp only [ly, Act.put]
  refine tkn 8 (.bool true) rfl (by kernel_rfl) (fun _ _ _ h => h) (yieldsIf_move _ rfl rfl rfl) hHeld ?_
  simp only [ly, Act.put]
  refine tkn 9 (.int .i64 0) rfl (by kernel_rfl) (fun _ _ _ h => h) (.inl ⟨by kernel_rfl, fun w _ => by go_simp⟩) hHeld ?_
  simp only [ly, Act.put]
  refine wpAnyH_ready (rs := [10]) (by kernel_rfl) (by simp) (AllReadyH.cons rfl (fun K hK => ?_) AllReadyH.nil)
  have hK' := hid hK
  clear hK
  rw [if_pos (by kernel_rfl)]
  simp only [ly1, ly2, ly3]
  go_simp
  refine (errNum_any _ _).mono ?_
  rintro e w' ⟨rfl, hw⟩
  subst hw
  refine hK'.out _ _ (by exact hHeld) (fun hHeld => ?_)
  clear hK' K
  refine tkn 11 (.bool true) rfl (by kernel_rfl) (fun _ _ _ h => h) (.inl ⟨by kernel_rfl, fun w _ => by go_simp⟩) hHeld ?_
  simp only [ly, Act.put]
  refine tkn 12 (.bool true) rfl (by kernel_rfl) (fun _ _ _ h => h) (yieldsIf_pick _ _ _ rfl rfl rfl rfl) hHeld ?_
  simp only [ly, Act.put]
  refine tkn 13 (.bool true) rfl (by kernel_rfl) (fun _ _ _ h => h) (yieldsIf_move _ rfl rfl rfl) hHeld ?_
  simp only [ly, Act.put]
  refine tkn 14 (.int .i64 0) rfl (by kernel_rfl) (fun _ _ _ h => h) (.inl ⟨by kernel_rfl, fun w _ => by go_simp⟩) hHeld ?_
  simp only [ly, Act.put]
  refine wpAnyH_ready (rs := [15]) (by kernel_rfl) (by simp) (AllReadyH.cons rfl (fun K hK => ?_) AllReadyH.nil)
  have hK' := hid hK
  clear hK
  rw [if_pos (by kernel_rfl)]
  simp only [ly1, ly2, ly3]
  go_simp
  refine (errNum_any _ _).mono ?_
  rintro e w' ⟨rfl, hw⟩
  subst hw
  refine hK'.out _ _ (by exact hHeld) (fun hHeld => ?_)
  clear hK' K
  refine tkn 16 (.bool true) rfl (by kernel_rfl) (fun _ _ _ h => h) (.inl ⟨by kernel_rfl, fun w _ => by go_simp⟩) hHeld ?_
  simp only [ly, Act.put]
  refine tkn 17 (.bool true) rfl (by kernel_rfl) (fun _ _ _ h => h) (yieldsIf_pick _ _ _ rfl rfl rfl rfl) hHeld ?_
  simp only [ly, Act.put]
  refine tkn 18 (.bool true) rfl (by kernel_rfl) (fun _ _ _ h => h) (yieldsIf_move _ rfl rfl rfl) hHeld ?_
  simp only [ly, Act.put]
  refine tkn 19 (.string sg) rfl (by kernel_rfl) (fun _ _ _ h => h) (.inl ⟨by kernel_rfl, fun w _ => by go_simp⟩) hHeld ?_
  simp only [ly, Act.put]
  refine tkn 20 (.int .u8 (b1.toNat : Int)) rfl (by kernel_rfl) (fun _ _ _ h => h) (.inl ⟨by kernel_rfl, fun w _ => by go_simp⟩) hHeld ?_
  simp only [ly, Act.put]
  refine tkn 21 (.int .i64 (n2 : Int)) rfl (by kernel_rfl) (fun _ _ _ h => h) (.inl ⟨by kernel_rfl, fun w _ => by go_simp⟩) hHeld ?_
  simp only [ly, Act.put]
  refine tkn 22 (.pointer (some ⟨q7, 4, none⟩)) rfl (by kernel_rfl) (fun _ _ _ h => h) (.inl ⟨by kernel_rfl, fun w _ => by go_simp⟩) hHeld ?_
  simp only [ly, Act.put]
  refine tkn 23 (.int .i64 (n : Int)) rfl (by kernel_rfl) (fun _ _ _ h => h) (.inl ⟨by kernel_rfl, fun V hS => by have c4 := hS.c 4 _ k4.out; go_simp⟩) hHeld ?_
  simp only [ly, Act.put]
  refine tkn 24 (.int .i64 (n2 : Int)) rfl (by kernel_rfl) (fun _ _ _ h => h) (.inl ⟨by kernel_rfl, fun w _ => by go_simp⟩) hHeld ?_
  simp only [ly, Act.put]
  refine tkn 25 (.bool true) rfl (by kernel_rfl) (fun _ _ _ h => h) (.inl ⟨by kernel_rfl, fun w _ => by go_simp⟩) hHeld ?_
  simp only [ly, Act.put]
  refine tkn 26 (.bool true) rfl (by kernel_rfl) (fun _ _ _ h => h) (yieldsIf_pick _ _ _ rfl rfl rfl rfl) hHeld ?_
  simp only [ly, Act.put]
  refine tkn 27 (.bool true) rfl (by kernel_rfl) (fun _ _ _ h => h) (yieldsIf_move _ rfl rfl rfl) hHeld ?_
  simp only [ly, Act.put]
  refine tkn 28 (.string sg) rfl (by kernel_rfl) (fun _ _ _ h => h) (.inl ⟨by kernel_rfl, fun w _ => by go_simp⟩) hHeld ?_
  simp only [ly, Act.put]
  refine tkn 29 (.int .i64 2220) rfl (by kernel_rfl) (fun _ _ _ h => h) (.inl ⟨by kernel_rfl, fun w _ => by go_simp⟩) hHeld ?_
  simp only [ly, Act.put]
  refine tkn 30 (.int .i64 2283) rfl (by kernel_rfl) (fun _ _ _ h => h) (.inl ⟨by kernel_rfl, fun w _ => by go_simp⟩) hHeld ?_
  simp only [ly, Act.put]
  refine tkn 31 (.int .u8 (b2.toNat : Int)) rfl (by kernel_rfl) (fun _ _ _ h => h) (.inl ⟨by kernel_rfl, fun w _ => by go_simp⟩) hHeld ?_
  simp only [ly, Act.put]
  refine tkn 32 (.int .i64 (n1 : Int)) rfl (by kernel_rfl) (fun _ _ _ h => h) (.inl ⟨by kernel_rfl, fun w _ => by go_simp⟩) hHeld ?_
  simp only [ly, Act.put]
  refine tkn 33 (.pointer (some ⟨q7, 4, none⟩)) rfl (by kernel_rfl) (fun _ _ _ h => h) (.inl ⟨by kernel_rfl, fun w _ => by go_simp⟩) hHeld ?_
  simp only [ly, Act.put]
  refine tkn 34 (.int .i64 (n : Int)) rfl (by kernel_rfl) (fun _ _ _ h => h) (.inl ⟨by kernel_rfl, fun V hS => by have c4 := hS.c 4 _ k4.out; go_simp⟩) hHeld ?_
  simp only [ly, Act.put]
  refine tkn 35 (.int .i64 (n1 : Int)) rfl (by kernel_rfl) (fun _ _ _ h => h) (.inl ⟨by kernel_rfl, fun w _ => by go_simp⟩) hHeld ?_
  simp only [ly, Act.put]
  refine tkn 36 (.bool true) rfl (by kernel_rfl) (fun _ _ _ h => h) (.inl ⟨by kernel_rfl, fun w _ => by go_simp⟩) hHeld ?_
  simp only [ly, Act.put]
  refine tkn 37 (.bool true) rfl (by kernel_rfl) (fun _ _ _ h => h) (yieldsIf_pick _ _ _ rfl rfl rfl rfl) hHeld ?_
  simp only [ly, Act.put]
  refine tkn 38 (.bool true) rfl (by kernel_rfl) (fun _ _ _ h => h) (yieldsIf_assign _ rfl rfl rfl) hHeld ?_
  simp only [ly, Act.put]
  refine wpAnyH_done (by kernel_rfl) ?_ _
  go_wp2_with fail
  go_ret
  exact ⟨rfl, hB10.out⟩

end Go.Proofs.Ytmfajekfipfjpaa
