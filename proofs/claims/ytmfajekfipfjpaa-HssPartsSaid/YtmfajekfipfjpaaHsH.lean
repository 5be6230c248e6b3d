/- Layer 6: the statements' own keys. -/
import Derived.Test.YtmfajekfipfjpaaHsG
namespace Go.Proofs.Ytmfajekfipfjpaa
open Go.RowKit
open Go.Lib (strCells strCells_length strCells_oneCell)
attribute [local irreducible] Sha.compress Sha.blocks Sha.sha Sha.pad

/-- A statement's number. -/
def kq (x : Int) : Nat := (IntKind.u64.wrap x % 5).toNat
theorem kq_le (x : Int) : kq x ≤ 4 := by unfold kq; omega
theorem kq_eq (x : Int) : (IntKind.u64.wrap x).tmod 5 = (kq x : Int) := by
  have e : IntKind.u64.wrap x = x % 18446744073709551616 := rfl
  unfold kq
  rw [e, Int.tmod_eq_emod_of_nonneg (by omega)]
  omega
set_option maxRecDepth 100000 in
set_option maxHeartbeats 1000000 in
theorem Key6_any (s : ByteArray) (x : Int) (hs : s.size ≤ 140737488351232) (w : World) : Calls Try.prog 28 #[.string s, .int .i64 x] w fun e w' => e = .returned (.agg (hCells s (kq x)).toArray) ∧ Below w.heap.size w w' := by
  obtain ⟨W0, hW0⟩ : ∃ W0, w.alloc (.cells (keyC 0 0 ⟨#[]⟩ ⟨#[]⟩ 0).toArray 53) = W0 := ⟨_, rfl⟩
  have hZ0 := hid (show Holds W0 w.heap.size 53 zk from by rw [← hW0]; exact Holds.new _ _ zk.toArray)
  have hB0 := hid (show Below w.heap.size w W0 from by rw [← hW0]; exact (Below.refl _ _).alloc (Nat.le_refl _) _)
  have hW0' := hid hW0
  have zi : (⟨#[105]⟩ ++ s : ByteArray).size ≤ 140737488355000 := by rw [ByteArray.size_append]; have : (⟨#[105]⟩ : ByteArray).size = 1 := rfl; omega
  have hfi := hid (fun W => filled6_any (⟨#[105]⟩ ++ s) 16 (by decide) zi W)
  have hfs := hid (fun W => filled6_any s 32 (by decide) (by omega) W)
  have hsz := hid (show (Try.prog.info? 53).map (·.size) = some 5 from sizeHss)
  obtain ⟨ki, hki⟩ : ∃ t, fillT (⟨#[105]⟩ ++ s) 16 = t := ⟨_, rfl⟩
  obtain ⟨ks, hks⟩ : ∃ t, fillT s 32 = t := ⟨_, rfl⟩
  unfold hCells hId hSeed
  rw [hki] at hfi ⊢
  rw [hks] at hfs ⊢
  have l1 : 1 + s.size ≤ 9223372036854775807 := by omega
  clear hki hks zi hW0
  have hle := kq_le x
  have e3 := kq_eq x
  obtain ⟨q, hq⟩ : ∃ q, kq x = q := ⟨_, rfl⟩
  rw [hq] at e3 hle ⊢
  clear hq
  obtain ⟨ux, hux⟩ : ∃ u, IntKind.u64.wrap x = u := ⟨_, rfl⟩
  rw [hux] at e3
  have e4 : IntKind.u64.wrap (q : Int) = (q : Int) := by
    have e : IntKind.u64.wrap (q : Int) = (q : Int) % 18446744073709551616 := rfl
    omega
  have e5 := IntWalk.i64_in (q : Int) (by omega)
  clear hle
  go_enter Try.func28, Try.ntmps28
  go_wp2_with (first
    | ((with_reducible refine at_slot (some 4) ?_); refine wpList_run rfl (.pointer (some ⟨w.heap.size, 0, none⟩)) (w.alloc (.cells (keyC 0 0 ⟨#[]⟩ ⟨#[]⟩ 0).toArray 53)) (by kernel_rfl) ?_; rw [hW0'.out])
    | fail)
  clear hs
  refine (hfi.out _).mono ?_
  rintro e W2 ⟨rfl, hb⟩
  have hZ2 := hid (hZ0.out.below hb hZ0.out.lt)
  have hB2 := hid (below_up hb hB0.out)
  clear hb hZ0 hB0
  go_wp2_with fail
  refine (hfs.out _).mono ?_
  rintro e W3 ⟨rfl, hb⟩
  have hZ3 := hid (hZ2.out.below hb hZ2.out.lt)
  have hB3 := hid (below_up hb hB2.out)
  clear hb hZ2 hB2
  go_wp2_with (first
    | ((with_reducible refine at_slot (some 14) ?_); refine wpList_run rfl (.agg (keyC 3 1 ki ks (q : Int)).toArray) W3 (by kernel_rfl) ?_)
    | ((with_reducible refine at_slot none ?_); refine wpList_store_mid rfl 53 (.tmp 4) (.tmp 14) rfl w.heap.size 0 (keyC 3 1 ki ks (q : Int)).toArray rfl rfl (by exact hZ3.out.there 0 _ (Nat.le_refl 5)) (by exact hsz.out) (by exact keyC_one _ _ _ _ _) ?_; generalize hXx : World.setCells _ _ _ _ = W4; have hZ4 := hid (Holds.over (cs := keyC 3 1 ki ks (q : Int)) hZ3.out rfl hXx); have hB4 := hid (below_put hB3.out (Nat.le_refl _) hXx); clear hXx)
    | fail)
  exact bodyPost_ret (results_cell_row rfl _ _ w.heap.size 53 _ (0, 0) _ rfl hZ4.out Try.underlying53 rfl (by exact hsz.out)) rfl ⟨rfl, hB4.out⟩

def hkPub (s : ByteArray) : ByteArray := hPubT Ots.o4 3 1 (hId s) (hSeed s)
def hkSig (s : ByteArray) (q : Nat) (msg : ByteArray) : ByteArray := hSigT Ots.o4 3 1 (hId s) (hSeed s) q msg
theorem hkOk (s : ByteArray) (q : Nat) (hq : q ≤ 4) : hOk 3 1 (hId s) (hSeed s) (q : Int) = true := by
  have : (q : Int) ≤ 4 := by omega
  unfold hOk
  rw [hpar3, hId_size, hSeed_size]
  simp [this]
theorem hkPublic (s : ByteArray) (q : Nat) (hq : q ≤ 4) (w : World) : Calls Try.prog 29 #[.agg (hCells s q).toArray] w fun e w' => e = .returned (.tuple #[.string (hkPub s), .int .i64 0]) ∧ Below w.heap.size w w' :=
  hPublic_good Ots.o4 3 1 q hpar3 (by decide) (by decide) (hId s) (hSeed s) (hId_size s) (hSeed_size s) hq (hkOk s q hq) w
theorem hkSign (s : ByteArray) (q : Nat) (hq : q < 4) (msg : ByteArray) (hm : msg.size ≤ 65536) (w : World) : Calls Try.prog 30 #[.agg (hCells s q).toArray, .string msg] w fun e w' => e = .returned (.tuple #[.string (hkSig s q msg), .agg (hCells s (q + 1)).toArray, .int .i64 0]) ∧ Below w.heap.size w w' :=
  hSign_good Ots.o4 3 1 q hpar3 (by decide) (by decide) (hId s) (hSeed s) (hId_size s) (hSeed_size s) hq (hkOk s q (by omega)) msg hm w
theorem hkSpent (s msg : ByteArray) (hm : msg.size ≤ 65536) (w : World) : Calls Try.prog 30 #[.agg (hCells s 4).toArray, .string msg] w fun e w' => e = .returned (.tuple #[.string ⟨#[]⟩, .agg zk.toArray, .int .i64 601]) ∧ Below w.heap.size w w' :=
  hSign_spent 3 1 (by decide) (hId s) (hSeed s) 4 (hkOk s 4 (by decide)) msg hm rfl w
theorem hkLeft (s : ByteArray) (q : Nat) (hq : q ≤ 4) (w : World) : Calls Try.prog 31 #[.agg (hCells s q).toArray] w fun e w' => e = .returned (.int .i64 ((4 - q : Nat) : Int)) ∧ Below w.heap.size w w' :=
  hLeft_good 3 1 q (by decide) hq (hId s) (hSeed s) (hkOk s q hq) w
theorem hkVer (s : ByteArray) (q : Nat) (hq : q < 4) (msg x : ByteArray) : hVer (hkPub s) x (hkSig s q msg) = comb 0 (Lms.verify (lowPubT Ots.o4 3 1 (hId s) (hSeed s) (q / 2)).data.toList x.data.toList (sigT Ots.o4 3 1 (lowId (hId s) (hSeed s) (q / 2)) (lowSeed (hId s) (hSeed s) (q / 2)) (q % 2) msg).data.toList) :=
  hVer_sign Ots.o4 3 1 q hpar3 (by decide) (by decide) (hId s) (hSeed s) (hId_size s) hq msg x
theorem hkVerify (s : ByteArray) (q : Nat) (hq : q < 4) (msg : ByteArray) (hm : msg.size ≤ 65536) : hVer (hkPub s) msg (hkSig s q msg) = 0 := by
  have e : Lms.verify (lowPubT Ots.o4 3 1 (hId s) (hSeed s) (q / 2)).data.toList msg.data.toList (sigT Ots.o4 3 1 (lowId (hId s) (hSeed s) (q / 2)) (lowSeed (hId s) (hSeed s) (q / 2)) (q % 2) msg).data.toList = 0 :=
    Lms.verify_ok Ots.o4 3 1 _ _ (q % 2) _ hpar3 (by decide) (by decide) (by decide) (by rw [data_length, lowId_size]) (by omega) (by rw [data_length]; exact hm)
  rw [hkVer s q hq, e]
  rfl
theorem hkWrong : hVer (hkPub ⟨#[115]⟩) ⟨#[120]⟩ (hkSig ⟨#[115]⟩ 3 ⟨#[109]⟩) = 602 := by
  have e : Lms.verify (lowPubT Ots.o4 3 1 (hId ⟨#[115]⟩) (hSeed ⟨#[115]⟩) (3 / 2)).data.toList (⟨#[120]⟩ : ByteArray).data.toList (sigT Ots.o4 3 1 (lowId (hId ⟨#[115]⟩) (hSeed ⟨#[115]⟩) (3 / 2)) (lowSeed (hId ⟨#[115]⟩) (hSeed ⟨#[115]⟩) (3 / 2)) (3 % 2) ⟨#[109]⟩).data.toList = 502 :=
    low_wrong _ _ (by rw [data_length, lowId_size]) (by rw [data_length, lowSeed_size]) lowId_num lowSeed_num
  rw [hkVer _ 3 (by decide), e]
  rfl
theorem hkPub_size (s : ByteArray) : (hkPub s).size = 60 := by
  unfold hkPub hPubT
  rw [ByteArray.size_append, be_size, pubT_size _ _ _ _ _ (hId_size s)]
theorem hkSig_size (s : ByteArray) (q : Nat) (msg : ByteArray) : (hkSig s q msg).size = 4500 := by
  unfold hkSig hSigT lowPubT
  rw [ByteArray.size_append, ByteArray.size_append, ByteArray.size_append, be_size, pubT_size _ _ _ _ _ (lowId_size _ _ _), sig_size, sig_size]
  rfl
theorem h_any {w : World} {g : Nat} {t : TypeId} {cs : List Value} (h : Holds w g t cs) : ∀ j v, cs[j]? = some v → w.cell? ((⟨g, 0, none⟩ : Addr).add j) = some v := by
  intro j v hv
  have e0 : (⟨g, 0, none⟩ : Addr).add j = ⟨g, j, none⟩ := by
    unfold Addr.add
    by_cases h0 : j = 0 <;> simp [h0]
  rw [e0, h.cell]
  exact hv
theorem hsk_new {W W7 : World} {cs : List Value} (hc : cs.length = 5) (h : (W.alloc (.cells zk.toArray 53)).setCells W.heap.size 0 cs = W7) : Holds W7 W.heap.size 53 cs ∧ Below W.heap.size W W7 := by
  have hH := Holds.new W 53 zk.toArray
  have hb : Below W.heap.size W (W.alloc (.cells zk.toArray 53)) := (Below.refl _ _).alloc (Nat.le_refl _) _
  exact ⟨Holds.over hH (by rw [hc]; rfl) h, below_put hb (Nat.le_refl _) h⟩
theorem hsk_there (W : World) (cs : List Value) (hc : cs.length = 5) : (W.alloc (.cells zk.toArray 53)).there W.heap.size 0 cs.toArray.size := (Holds.new W 53 zk.toArray).there 0 _ (by rw [List.size_toArray, hc]; exact Nat.le_refl 5)
/-- A list of cells that is a key's. -/
structure KeyH (cs : List Value) : Prop where
  len : cs.length = 5
  one : cs.toArray.all (·.oneCell') = true
  size : (Try.prog.info? 53).map (·.size) = some cs.toArray.size
  size' : (Try.prog.info? 53).map (·.size) = some cs.length
theorem hkKey (s : ByteArray) (q : Nat) : KeyH (hCells s q) := ⟨rfl, keyC_one _ _ _ _ _, sizeHss, sizeHss⟩
theorem zhKey : KeyH zk := ⟨rfl, zk_one, sizeHss, sizeHss⟩

set_option maxRecDepth 100000 in
set_option maxHeartbeats 3000000 in
theorem awake6_any (w : World) : Calls Try.prog 27 #[] w fun e w' => e = .returned (.bool true) ∧ Below w.heap.size w w' := by
  obtain ⟨kc, hkc⟩ : ∃ c, hCells ⟨#[115]⟩ 3 = c := ⟨_, rfl⟩
  obtain ⟨kn, hkn⟩ : ∃ c, hCells ⟨#[115]⟩ 4 = c := ⟨_, rfl⟩
  obtain ⟨pb, hpb⟩ : ∃ c, hkPub ⟨#[115]⟩ = c := ⟨_, rfl⟩
  obtain ⟨sg, hsg⟩ : ∃ c, hkSig ⟨#[115]⟩ 3 ⟨#[109]⟩ = c := ⟨_, rfl⟩
  have hKey := hid (fun W => show Calls Try.prog 28 #[.string ⟨#[115]⟩, .int .i64 3] W fun e w' => e = .returned (.agg kc.toArray) ∧ Below W.heap.size W w' from by rw [← hkc]; exact Key6_any ⟨#[115]⟩ 3 (by decide) W)
  have hPub := hid (fun W => hkPublic ⟨#[115]⟩ 3 (by decide) W)
  have hSg := hid (fun W => hkSign ⟨#[115]⟩ 3 (by decide) ⟨#[109]⟩ (by decide) W)
  have hSp := hid (fun W => hkSpent ⟨#[115]⟩ ⟨#[109]⟩ (by decide) W)
  have hLf := hid (fun W => show Calls Try.prog 31 #[.agg (hCells ⟨#[115]⟩ 3).toArray] W fun e w' => e = .returned (.int .i64 1) ∧ Below W.heap.size W w' from hkLeft ⟨#[115]⟩ 3 (by decide) W)
  have hBd := hid (fun W => show Calls Try.prog 29 #[.agg zk.toArray] W fun e w' => e = .returned (.tuple #[.string ⟨#[]⟩, .int .i64 600]) ∧ Below W.heap.size W w' from hPublic_bad 0 0 ⟨#[]⟩ ⟨#[]⟩ 0 rfl W)
  rw [hkc, hpb] at hPub
  rw [hkc, hsg, hkn] at hSg
  rw [hkn] at hSp
  rw [hkc] at hLf
  have hC := hid (hkc ▸ hkKey ⟨#[115]⟩ 3 : KeyH kc)
  have hN := hid (hkn ▸ hkKey ⟨#[115]⟩ 4 : KeyH kn)
  have hZ := hid zhKey
  have zs : sg.size ≤ 140737488351232 := by rw [← hsg, hkSig_size]; decide
  have zp := hid (show ((pb.size : Int) == 60) = true from by rw [← hpb, hkPub_size]; rfl)
  have v1 := hid (fun W => show Calls Try.prog 25 #[.string pb, .string ⟨#[109]⟩, .string sg] W fun e w' => e = .returned (.int .i64 0) ∧ Below W.heap.size W w' from by
    have e := hkVerify ⟨#[115]⟩ 3 (by decide) ⟨#[109]⟩ (by decide)
    rw [hpb, hsg] at e
    have h := hVerify_any pb ⟨#[109]⟩ sg (by decide) zs W
    rw [e] at h
    exact h)
  have v2 := hid (fun W => show Calls Try.prog 25 #[.string pb, .string ⟨#[120]⟩, .string sg] W fun e w' => e = .returned (.int .i64 602) ∧ Below W.heap.size W w' from by
    have e := hkWrong
    rw [hpb, hsg] at e
    have h := hVerify_any pb ⟨#[120]⟩ sg (by decide) zs W
    rw [e] at h
    exact h)
  have hfour := hid (show kn[4]? = some (.int .i64 4) from by rw [← hkn]; rfl)
  clear hkc hkn hpb hsg zs
  go_enter Try.func27, Try.ntmps27
  go_wp2_with fail
  refine (hKey.out _).mono ?_
  rintro e W1 ⟨rfl, hb⟩
  have hB1 := hid hb
  clear hb
  go_wp2_with (first
    | ((with_reducible refine at_slot (some 1) ?_); refine wpList_run rfl (.pointer (some ⟨W1.heap.size, 0, none⟩)) (W1.alloc (.cells zk.toArray 53)) (by kernel_rfl) ?_)
    | ((with_reducible refine at_slot none ?_); refine wpList_store_mid rfl 53 (.tmp 1) (.tmp 14) rfl W1.heap.size 0 kc.toArray rfl rfl (by exact hsk_there W1 _ hC.out.len) (by exact hC.out.size) (by exact hC.out.one) ?_; generalize hW : World.setCells _ _ _ _ = W2; obtain ⟨hNw, hb⟩ := hsk_new hC.out.len hW; have hB2 := hid (below_up hb hB1.out); have hK2 := hid hNw; clear hb hNw hB1; clear hW)
    | ((with_reducible refine at_slot (some 16) ?_); refine wpList_load_mid rfl 53 (.tmp 1) rfl W1.heap.size 0 rfl kc _ (by exact h_all hK2.out) Try.underlying53 rfl (by exact hC.out.size') ?_)
    | fail)
  refine (hPub.out _).mono ?_
  rintro e W3 ⟨rfl, hb⟩
  have hB3 := hid (below_up hb hB2.out)
  have hK3 := hid (hK2.out.below hb hK2.out.lt)
  clear hb hB2 hK2
  go_wp2_with (first
    | ((with_reducible refine at_slot (some 21) ?_); refine wpList_load_mid rfl 53 (.tmp 1) rfl W1.heap.size 0 rfl kc _ (by exact h_all hK3.out) Try.underlying53 rfl (by exact hC.out.size') ?_)
    | fail)
  skip
  refine (hSg.out _).mono ?_
  rintro e W4 ⟨rfl, hb⟩
  have hB4 := hid (below_up hb hB3.out)
  have hK4 := hid (hK3.out.below hb hK3.out.lt)
  clear hb hB3 hK3
  go_wp2_with (first
    | ((with_reducible refine at_slot (some 5) ?_); refine wpList_run rfl (.pointer (some ⟨W4.heap.size, 0, none⟩)) (W4.alloc (.cells zk.toArray 53)) (by kernel_rfl) ?_)
    | ((with_reducible refine at_slot none ?_); refine wpList_store_mid rfl 53 (.tmp 5) (.tmp 24) rfl W4.heap.size 0 kn.toArray rfl rfl (by exact hsk_there W4 _ hN.out.len) (by exact hN.out.size) (by exact hN.out.one) ?_; generalize hW : World.setCells _ _ _ _ = W5; obtain ⟨hNw, hb⟩ := hsk_new hN.out.len hW; have hB5 := hid (below_up hb hB4.out); have hK5 := hid (hK4.out.below hb hK4.out.lt); have hN5 := hid hNw; clear hb hNw hB4 hK4; clear hW)
    | fail)
  refine (v1.out _).mono ?_
  rintro e W6 ⟨rfl, hb⟩
  have hB6 := hid (below_up hb hB5.out)
  have hK6 := hid (hK5.out.below hb hK5.out.lt)
  have hN6 := hid (hN5.out.below hb hN5.out.lt)
  clear hb hB5 hK5 hN5
  go_wp2_with fail
  refine (v2.out _).mono ?_
  rintro e W7 ⟨rfl, hb⟩
  have hB7 := hid (below_up hb hB6.out)
  have hK7 := hid (hK6.out.below hb hK6.out.lt)
  have hN7 := hid (hN6.out.below hb hN6.out.lt)
  clear hb hB6 hK6 hN6
  go_wp2_with (first
    | ((with_reducible refine at_slot (some 33) ?_); refine wpList_load_mid rfl 53 (.tmp 5) rfl W4.heap.size 0 rfl kn _ (by exact h_all hN7.out) Try.underlying53 rfl (by exact hN.out.size') ?_)
    | fail)
  skip
  refine (hSp.out _).mono ?_
  rintro e W8 ⟨rfl, hb⟩
  have hB8 := hid (below_up hb hB7.out)
  have hK8 := hid (hK7.out.below hb hK7.out.lt)
  have hN8 := hid (hN7.out.below hb hN7.out.lt)
  clear hb hB7 hK7 hN7
  go_wp2_with (first
    | ((with_reducible refine at_slot (some 10) ?_); refine wpList_run rfl (.pointer (some ⟨W8.heap.size, 0, none⟩)) (W8.alloc (.cells zk.toArray 53)) (by kernel_rfl) ?_)
    | ((with_reducible refine at_slot none ?_); refine wpList_store_mid rfl 53 (.tmp 10) (.tmp 36) rfl W8.heap.size 0 zk.toArray rfl rfl (by exact hsk_there W8 _ hZ.out.len) (by exact hZ.out.size) (by exact hZ.out.one) ?_; generalize hW : World.setCells _ _ _ _ = W9; obtain ⟨hNw, hb⟩ := hsk_new hZ.out.len hW; have hB9 := hid (below_up hb hB8.out); have hK9 := hid (hK8.out.below hb hK8.out.lt); have hN9 := hid (hN8.out.below hb hN8.out.lt); have hY9 := hid hNw; clear hb hNw hB8 hK8 hN8; clear hW)
    | ((with_reducible refine at_slot (some 39) ?_); refine wpList_run rfl (.agg zk.toArray) _ (by kernel_rfl) ?_)
    | fail)
  refine (hBd.out _).mono ?_
  rintro e W10 ⟨rfl, hb⟩
  have hB10 := hid (below_up hb hB9.out)
  have hK10 := hid (hK9.out.below hb hK9.out.lt)
  have hN10 := hid (hN9.out.below hb hN9.out.lt)
  clear hb hB9 hK9 hN9
  have n4 := hN10.out.c 4 _ hfour.out
  have zp' := zp.out
  go_wp2_with (first
    | (go_at_call 16; refine (errNum_any _ _).mono ?_; rintro e w' ⟨rfl, rfl⟩)
    | ((with_reducible refine at_slot (some 82) ?_); refine wpList_load_any_on (by kernel_rfl) 53 (.tmp 1) rfl ⟨W1.heap.size, 0, none⟩ rfl kc _ (by exact h_any hK10.out) Try.underlying53 rfl (by exact hC.out.size') ?_)
    | fail)
  skip
  refine (hLf.out _).mono ?_
  rintro e W11 ⟨rfl, hb⟩
  have hB11 := hid (below_up hb hB10.out)
  have hK11 := hid (hK10.out.below hb hK10.out.lt)
  have hN11 := hid (hN10.out.below hb hN10.out.lt)
  clear hb hB10 hK10 hN10
  go_wp2_with fail
  go_ret
  exact ⟨rfl, hB11.out⟩
end Go.Proofs.Ytmfajekfipfjpaa
