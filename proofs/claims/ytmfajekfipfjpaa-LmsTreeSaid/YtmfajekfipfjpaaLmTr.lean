/- Layer 5: LmsTree. -/
import Derived.Test.YtmfajekfipfjpaaLmRn
import Derived.Test.YtmfajekfipfjpaaLmKe
import Derived.Test.YtmfajekfipfjpaaLoadOn
namespace Go.Proofs.Ytmfajekfipfjpaa
open Go.RowKit
open Go.Lib (strCells strCells_length strCells_oneCell)
attribute [local irreducible] Sha.compress Sha.blocks Sha.sha Sha.pad

theorem tree_head (h : Nat) (h12 : h = 1 ∨ h = 2) : ⟨#[240, 0, 0]⟩ ++ be 1 h ++ ⟨#[0, 0, 0, 3]⟩ = be 4 (Lms.typ h) ++ be 4 3 := by
  rcases h12 with rfl | rfl <;> decide +kernel
theorem tree_text (s : ByteArray) (h : Nat) (h12 : h = 1 ∨ h = 2) : ⟨#[240, 0, 0]⟩ ++ be 1 h ++ ⟨#[0, 0, 0, 3]⟩ ++ kId s ++ txt (ndOf Ots.o4 h (kId s) (kSeed s) 1) = kPub s h := by
  rw [tree_head h h12]
  exact pubT_eq Ots.o4 3 h (kId s) (kSeed s) _ rfl
/-- What a leaf, an inner node are made of, by the program's own digest. -/
theorem tLeaf_any (p : Ots.Par) (h q k : Nat) (id seed : ByteArray) (hi16 : id.size = 16) (hk : 2 ^ h + q = k) (hq : q < 2 ^ h) (W : World) : Calls Try.prog 24 #[.string (id ++ be 4 k ++ ⟨#[130, 130]⟩ ++ txt (Ots.pub p (Ots.head id.data.toList q) seed.data.toList))] W fun e w' => e = .returned (.agg (byteCells (ndOf p h id seed k)).toArray) ∧ Below W.heap.size W w' := by
  have hc := sum_any (id ++ be 4 k ++ ⟨#[130, 130]⟩ ++ txt (Ots.pub p (Ots.head id.data.toList q) seed.data.toList)) W (by rw [← lead82]; have := leafX_size id k (Ots.pub p (Ots.head id.data.toList q) seed.data.toList) (Lms.pub_len _ _ _); unfold leafX at this; rw [this]; omega)
  have e : ndOf p h id seed k = Lms.leaf id.data.toList k (Ots.pub p (Ots.head id.data.toList q) seed.data.toList) := by
    unfold ndOf
    rw [Lms.at_leaf _ _ h k (by omega) (by rw [Nat.pow_succ]; omega)]
    unfold Lms.keys
    rw [← hk, Nat.add_sub_cancel_left]
  unfold hashV at hc
  rw [leaf_text, ← e] at hc
  exact hc
theorem tJoin_any (p : Ots.Par) (h k : Nat) (id seed : ByteArray) (hi16 : id.size = 16) (h1 : 1 ≤ k) (hk : k < 2 ^ h) (W : World) : Calls Try.prog 24 #[.string (id ++ be 4 k ++ ⟨#[131, 131]⟩ ++ txt (ndOf p h id seed (2 * k)) ++ txt (ndOf p h id seed (2 * k + 1)))] W fun e w' => e = .returned (.agg (byteCells (ndOf p h id seed k)).toArray) ∧ Below W.heap.size W w' := by
  have hc := sum_any (id ++ be 4 k ++ ⟨#[131, 131]⟩ ++ txt (ndOf p h id seed (2 * k)) ++ txt (ndOf p h id seed (2 * k + 1))) W (by rw [← lead83]; have := joinX_size id k (ndOf p h id seed (2 * k)) (ndOf p h id seed (2 * k + 1)) (ndOf_len _ _ _ _ _) (ndOf_len _ _ _ _ _); unfold joinX at this; rw [this]; omega)
  have e : ndOf p h id seed k = Lms.join id.data.toList k (ndOf p h id seed (2 * k)) (ndOf p h id seed (2 * k + 1)) := Lms.at_join _ _ h k h1 hk
  unfold hashV at hc
  rw [join_text, ← e] at hc
  exact hc

theorem byte_row (W : World) (h : Nat) (hh : h < 256) : (convert 49 9 (.slice (some ⟨W.heap.size, 0, none⟩) 1 1)).run Try.prog (W.alloc (.cells #[.int .u8 (h : Int)] 5)) = .ok (.string (be 1 h)) (W.alloc (.cells #[.int .u8 (h : Int)] 5)) := by
  refine row_text _ W.heap.size 1 (be 1 h) rfl 5 ?_
  have e : strCells (be 1 h) = [.int .u8 (h : Int)] := by
    have e0 := be_byte0 h
    rw [show (h : Int) % 256 = (h : Int) from by omega] at e0
    rw [← e0]
    rfl
  rw [e]
  exact Holds.new W 5 #[.int .u8 (h : Int)]

set_option maxRecDepth 100000 in
set_option maxHeartbeats 8000000 in
theorem LmsTree_law {w : World} (s : ByteArray) (hs : s.size ≤ 140737488351232) (tall : Bool) :
    Calls Try.prog 6 #[.string s, .bool tall] w fun e w' => e = .returned (.bool true) ∧ Below w.heap.size w w' := by
  have hKey := hid (fun x W => Key_any s x hs W)
  obtain ⟨i0, hi0, hz0, hz1, hz2⟩ := info_parts Try.infoStrR
  obtain ⟨idt, hidt⟩ : ∃ t, kId s = t := ⟨_, rfl⟩
  obtain ⟨sdt, hsdt⟩ : ∃ t, kSeed s = t := ⟨_, rfl⟩
  have hid16 := hid (show idt.size = 16 from by rw [← hidt]; exact kId_size s)
  have hsd32 := hid (show sdt.size = 32 from by rw [← hsdt]; exact kSeed_size s)
  have hidt' := hid hidt
  have hsdt' := hid hsdt
  have hkc0 := hid (fun (h : Nat) => show keyC 3 (h : Int) (kId s) (kSeed s) 0 = kCells s h 0 from rfl)
  have hBe := hid (fun (k : Nat) (hk : k < 64) W => Be_any (k : Int) 4 4 rfl (by decide) k rfl (by omega) W)
  clear hidt hsdt
  cases tall
  all_goals (
    go_enter Try.func6, Try.ntmps6
    go_wp2_with fail
    refine (awake5_any _).mono ?_
    rintro e W1 ⟨rfl, hb⟩
    have hB1 := hid hb
    clear hb
    go_wp2_with fail
    refine (hKey.out _ _).mono ?_
    rintro e W2 ⟨rfl, hb⟩
    have hB2 := hid (below_up hb hB1.out)
    clear hb hB1
    rw [hkc0.out]
    first
      | (obtain ⟨h, hh, h12⟩ : ∃ h, kh 0 = h ∧ (h = 1 ∨ h = 2) := ⟨_, rfl, kh_two 0⟩; rw [hh]; clear hh)
      | (obtain ⟨h, hh, h12⟩ : ∃ h, kh 1 = h ∧ (h = 1 ∨ h = 2) := ⟨_, rfl, kh_two 1⟩; rw [hh]; clear hh)
    obtain ⟨kc, hkc⟩ : ∃ c, kCells s h 0 = c := ⟨_, rfl⟩
    have hPub := hid (fun W => kPublic s h 0 h12 (Nat.zero_le _) W)
    obtain ⟨pb, hpb⟩ : ∃ c, kPub s h = c := ⟨_, rfl⟩
    have hC := hid (hkc ▸ kKey s h 0 : KeyC kc)
    have k0 := hid (show kc[0]? = some (.int .i64 3) from by rw [← hkc]; rfl)
    have k1 := hid (show kc[1]? = some (.int .i64 (h : Int)) from by rw [← hkc]; rfl)
    have k2 := hid (show kc[2]? = some (.string idt) from by rw [← hkc, ← hidt'.out]; rfl)
    have k3 := hid (show kc[3]? = some (.string sdt) from by rw [← hkc, ← hsdt'.out]; rfl)
    have htt := tree_text s h h12
    obtain ⟨nd, hnd⟩ : ∃ nd, ndOf Ots.o4 h idt sdt = nd := ⟨_, rfl⟩
    rw [hidt'.out, hsdt'.out, hnd] at htt
    rw [hpb] at htt
    rw [hkc, hpb] at hPub
    rw [hkc]
    obtain ⟨m, hm⟩ : ∃ m, 2 ^ h = m := ⟨_, rfl⟩
    have hm24 : m = 2 ∨ m = 4 := by rw [← hm]; rcases h12 with rfl | rfl <;> decide
    have h5 : h ≤ 5 := by omega
    obtain ⟨n, hn⟩ : ∃ n, 2 * m = n := ⟨_, rfl⟩
    obtain ⟨L, hLn⟩ : ∃ L, n = L + 1 := ⟨n - 1, by omega⟩
    obtain ⟨Z, hZ⟩ : ∃ Z : Int, (m : Int) = Z := ⟨_, rfl⟩
    have hZw : IntKind.i64.wrap (2 ^ h) = Z := (shl_wrap h h5).trans (by rw [hm]; exact hZ)
    have hm64 : min h 64 = h := by omega
    have e2 : IntKind.i64.wrap (2 * Z) = (n : Int) := by rw [IntWalk.i64_in _ (by omega)]; omega
    have e3 : IntKind.i64.wrap ((n : Int) - 1) = (L : Int) := by rw [IntWalk.i64_in _ (by omega)]; omega
    have e8 : IntKind.u8.wrap (h : Int) = (h : Int) := by rcases h12 with rfl | rfl <;> decide
    have hY := hid (fun (q : Nat) (hq : q < m) W => show Calls Try.prog 22 #[.int .i64 3, .string idt, .int .i64 (q : Int), .string sdt] W fun e w' => e = .returned (.tuple #[.agg (byteCells (Ots.pub Ots.o4 (Ots.head idt.data.toList q) sdt.data.toList)).toArray, .int .i64 0]) ∧ Below W.heap.size W w' from by
      have hc := Public_any 3 (q : Int) idt sdt W
      rw [pub_good par3 q (by omega) idt sdt hid16.out hsd32.out] at hc
      exact hc)
    have hL := hid (fun (q k : Nat) (hk : m + q = k) (hq : q < m) W => show Calls Try.prog 24 #[.string (idt ++ be 4 k ++ ⟨#[130, 130]⟩ ++ txt (Ots.pub Ots.o4 (Ots.head idt.data.toList q) sdt.data.toList))] W fun e w' => e = .returned (.agg (byteCells (nd k)).toArray) ∧ Below W.heap.size W w' from by
      rw [← hnd]
      exact tLeaf_any Ots.o4 h q k idt sdt hid16.out (by rw [hm]; exact hk) (by rw [hm]; exact hq) W)
    have hJ := hid (fun k (h1 : 1 ≤ k) (hk : k < m) W => show Calls Try.prog 24 #[.string (idt ++ be 4 k ++ ⟨#[131, 131]⟩ ++ txt (nd (2 * k)) ++ txt (nd (2 * k + 1)))] W fun e w' => e = .returned (.agg (byteCells (nd k)).toArray) ∧ Below W.heap.size W w' from by
      rw [← hnd]
      exact tJoin_any Ots.o4 h k idt sdt hid16.out h1 (by rw [hm]; exact hk) W)
    have hnT := hid (fun k W => show Calls Try.prog 23 #[.agg (byteCells (nd k)).toArray] W fun e w' => e = .returned (.string (txt (nd k))) ∧ Below W.heap.size W w' from tT_any (nd k) (by rw [← hnd]; exact ndOf_len _ _ _ _ _) W)
    have hyc := hid (fun q => hash_cells (Ots.pub Ots.o4 (Ots.head idt.data.toList q) sdt.data.toList) (Lms.pub_len _ _ _))
    have hyT := hid (fun q W => show Calls Try.prog 23 #[.agg (byteCells (Ots.pub Ots.o4 (Ots.head idt.data.toList q) sdt.data.toList)).toArray] W fun e w' => e = .returned (.string (txt (Ots.pub Ots.o4 (Ots.head idt.data.toList q) sdt.data.toList))) ∧ Below W.heap.size W w' from tT_any _ (Lms.pub_len _ _ _) W)
    have hysz := hid (fun q => show (txt (Ots.pub Ots.o4 (Ots.head idt.data.toList q) sdt.data.toList)).size = 32 from by rw [txt_size]; exact Lms.pub_len _ _ _)
    obtain ⟨yk, hyk⟩ : ∃ f : Nat → List UInt8, (fun q => Ots.pub Ots.o4 (Ots.head idt.data.toList q) sdt.data.toList) = f := ⟨_, rfl⟩
    have hyk' : ∀ q, Ots.pub Ots.o4 (Ots.head idt.data.toList q) sdt.data.toList = yk q := fun q => congrFun hyk q
    simp only [hyk'] at hY hL hyc hyT hysz
    have hnl := hid (fun r => show (txt (nd r)).size = 32 from by rw [txt_size, ← hnd]; exact ndOf_len _ _ _ _ _)
    have hmm := hid hm
    have hZZ := hid hZ
    have hnn := hid hn
    have hLL := hid hLn
    have h2n := hid hm24
    have hle2 := hid hB2.out.size
    have h1n : h < 256 := by omega
    clear hm hZ hn hLn hm24 hkc hpb hnd hyk hyk' h12
    go_wp2_with (first
      | ((with_reducible refine at_slot (some 6) ?_); refine wpList_run rfl (.pointer (some ⟨W2.heap.size, 0, none⟩)) (W2.alloc (.cells zk.toArray 23)) (by kernel_rfl) ?_)
      | ((with_reducible refine at_slot none ?_); refine wpList_store_mid rfl 23 (.tmp 6) (.tmp 20) rfl W2.heap.size 0 kc.toArray rfl rfl (by exact key_there W2 _ hC.out.len) (by exact hC.out.size) (by exact hC.out.one) ?_; generalize hW : World.setCells _ _ _ _ = W3; obtain ⟨hN, hb⟩ := key_new hC.out.len hW; have hB3 := hid (below_up hb hB2.out); have hK3 := hid hN; clear hb hB2 hN; have c1 := hK3.out.c 1 _ k1.out; clear hW)
      | ((with_reducible refine at_slot (some 26) ?_); refine wpList_make_block rfl _ _ _ rfl 9 i0 (.string ByteArray.empty) Try.underlying41 hi0 hz0 hz1 rfl (by have := hnn.out; have := h2n.out; omega) (n : Int) n rfl rfl rfl (by have := hnn.out; have := h2n.out; omega) ?_; generalize hWg : World.alloc _ _ = W4; have hWg' := hid hWg; clear hWg)
      | fail)
    obtain ⟨g, hg⟩ : ∃ g, W3.heap.size = g := ⟨_, rfl⟩
    obtain ⟨q6, hq6⟩ : ∃ g, W2.heap.size = g := ⟨_, rfl⟩
    have hb : Below W3.heap.size W3 W4 := by rw [← hWg'.out]; exact (Below.refl _ _).alloc (Nat.le_refl _) _
    have hG4 := hid (show Holds W4 g 9 (nodeC nd n L) from by
      rw [← hWg'.out, nodeC_start nd n L (by have := hLL.out; omega), ← hg]
      have := Holds.new W3 9 (Array.replicate n (.string ByteArray.empty))
      rw [Array.toList_replicate] at this
      exact this)
    have hlg : q6 < g := by rw [← hg, ← hq6]; exact hK3.out.lt
    have hlw : w.heap.size ≤ q6 := by rw [← hq6]; exact hle2.out
    have hK4 := hid (hK3.out.below hb hK3.out.lt)
    have hB4 := hid (below_up hb hB3.out)
    rw [hq6] at hK4
    rw [hg, hq6]
    clear hb hWg' hK3 hB3 c1 hg hq6
    go_loopw [9] (fun r wr => ∃ k : Nat, k ≤ L ∧ r = .int .i64 (k : Int) ∧ Holds wr q6 23 kc ∧ Holds wr g 9 (nodeC nd n k) ∧ Below w.heap.size w wr) (fun r _ => (intOf r).toNat)
    case atStart => exact ⟨L, Nat.le_refl _, rfl, hK4.out, hG4.out, hB4.out⟩
    case round =>
      obtain ⟨k, hk, rfl, hKr, hGr, hBr⟩ := hrel
      have hK0 := hid hKr
      have hG0 := hid hGr
      have hB0 := hid hBr
      clear hKr hGr hBr
      by_cases hk0 : k = 0
      · subst hk0
        go_wp2_with (first
          | ((with_reducible refine at_slot (some 89) ?_); refine wpList_load_mid rfl 23 (.tmp 6) rfl q6 0 rfl kc _ (by exact h_all hK0.out) Try.underlying23 rfl (by exact hC.out.size') ?_)
          | fail)
        refine (hPub.out _).mono ?_
        rintro e W1 ⟨rfl, hb⟩
        have hK1 := hid (hK0.out.below hb hK0.out.lt)
        have hG1 := hid (hG0.out.below hb hG0.out.lt)
        have hB1 := hid (below_up hb hB0.out)
        clear hb hK0 hG0 hB0
        have hn1 : 1 < n := by have := hnn.out; have := h2n.out; omega
        have hn1i : (1 : Int) < (n : Int) := by omega
        have s1 := hnl.out 1
        obtain ⟨tx, htx⟩ : ∃ t, txt (nd 1) = t := ⟨_, rfl⟩
        rw [htx] at htt s1
        have g1 := hid (show (nodeC nd n 0)[1]? = some (.string tx) from by rw [← htx]; exact nodeC_got hn1 (by decide))
        have hcb := hid (fun W => byte_row W h h1n)
        obtain ⟨bh, hbh⟩ : ∃ b, be 1 h = b := ⟨_, rfl⟩
        have sbh : bh.size = 1 := by rw [← hbh, be_size]
        rw [hbh] at htt hcb
        have si := hid16.out
        have z1 : 3 + bh.size ≤ 9223372036854775807 := by omega
        have z2 : 3 + bh.size + 4 ≤ 9223372036854775807 := by omega
        have z3 : 3 + bh.size + 4 + idt.size ≤ 9223372036854775807 := by omega
        have z4 : 3 + bh.size + 4 + idt.size + tx.size ≤ 9223372036854775807 := by omega
        have htt' := hid htt
        clear htx hbh sbh si s1 htt
        go_wp2_with fail
        have hb : Below W1.heap.size W1 W1.drew := (Below.refl _ _).drew
        have hK2 := hid (hK1.out.below hb hK1.out.lt)
        have hG2 := hid (hG1.out.below hb hG1.out.lt)
        have hB2 := hid (below_up hb hB1.out)
        clear hb hK1 hG1 hB1
        refine wp_region_held_drew (S := fun V => Holds V q6 23 kc ∧ Holds V g 9 (nodeC nd n 0)) (by kernel_rfl) (by exact ⟨hK2.out, hG2.out⟩) (fun hHeld => ?_)
        generalize W1.drew = W2 at *
        refine tkn 0 (.int .i64 0) rfl (by kernel_rfl) (fun _ _ _ h => h) (yieldsIf_move _ rfl rfl rfl) hHeld ?_
        simp only [ly, Act.put]
        refine wpAnyH_ready (rs := [1]) (by kernel_rfl) (by simp) (AllReadyH.cons rfl (fun K hK => ?_) AllReadyH.nil)
        have hK' := hid hK
        clear hK
        rw [if_pos (by kernel_rfl)]
        simp only [ly1, ly2, ly3]
        go_simp
        refine (errNum_any _ _).mono ?_
        rintro e w' ⟨rfl, hw⟩
        subst hw
        refine hK'.out _ _ (by exact ⟨hK2.out, hG2.out⟩) (fun hHeld => ?_)
        clear hK' K
        refine tkn 2 (.bool true) rfl (by kernel_rfl) (fun _ _ _ h => h) (.inl ⟨by kernel_rfl, fun w _ => by go_simp⟩) hHeld ?_
        simp only [ly, Act.put]
        refine tkn 3 (.bool true) rfl (by kernel_rfl) (fun _ _ _ h => h) (yieldsIf_move _ rfl rfl rfl) hHeld ?_
        simp only [ly, Act.put]
        refine tkn 4 (.string pb) rfl (by kernel_rfl) (fun _ _ _ h => h) (.inl ⟨by kernel_rfl, fun w _ => by go_simp⟩) hHeld ?_
        simp only [ly, Act.put]
        refine tkn 5 (.pointer (some ⟨q6, 1, none⟩)) rfl (by kernel_rfl) (fun _ _ _ h => h) (.inl ⟨by kernel_rfl, fun w _ => by go_simp⟩) hHeld ?_
        simp only [ly, Act.put]
        refine tkn 6 (.int .i64 (h : Int)) rfl (by kernel_rfl) (fun _ _ _ h => h) (.inl ⟨by kernel_rfl, fun V hS => by have c1 := hS.1.c 1 _ k1.out; go_simp⟩) hHeld ?_
        simp only [ly, Act.put]
        refine tkn 7 (.int .u8 (h : Int)) rfl (by kernel_rfl) (fun _ _ _ h => h) (.inl ⟨by kernel_rfl, fun w _ => by go_simp⟩) hHeld ?_
        simp only [ly, Act.put]
        refine tkn 12 (.pointer (some ⟨q6, 2, none⟩)) rfl (by kernel_rfl) (fun _ _ _ h => h) (.inl ⟨by kernel_rfl, fun w _ => by go_simp⟩) hHeld ?_
        simp only [ly, Act.put]
        refine tkn 13 (.string idt) rfl (by kernel_rfl) (fun _ _ _ h => h) (.inl ⟨by kernel_rfl, fun V hS => by have c2 := hS.1.c 2 _ k2.out; go_simp⟩) hHeld ?_
        simp only [ly, Act.put]
        refine tkn 15 (.slice (some ⟨g, 0, none⟩) n n) rfl (by kernel_rfl) (fun _ _ _ h => h) (.inl ⟨by kernel_rfl, fun w _ => by go_simp⟩) hHeld ?_
        simp only [ly, Act.put]
        refine tkn 16 (.pointer (some ⟨g, 1, none⟩)) rfl (by kernel_rfl) (fun _ _ _ h => h) (.inl ⟨by kernel_rfl, fun w _ => by go_simp⟩) hHeld ?_
        simp only [ly, Act.put]
        refine tkn 17 (.string tx) rfl (by kernel_rfl) (fun _ _ _ h => h) (.inl ⟨by kernel_rfl, fun V hS => by have c1 := hS.2.c 1 _ g1.out; go_simp⟩) hHeld ?_
        simp only [ly, Act.put]
        refine wpAnyH_ready (rs := [8]) (by kernel_rfl) (by simp) (AllReadyH.cons rfl (fun K hK => ?_) AllReadyH.nil)
        have hK' := hid hK
        clear hK
        rw [if_pos (by kernel_rfl)]
        simp only [ly1, ly2, ly3]
        go_simp
        have hb := (Below.refl W2.heap.size W2).alloc (Nat.le_refl _) (.cells #[.int .u8 (h : Int)] 5)
        have hcv := hid (hcb.out W2)
        obtain ⟨gb, hgb⟩ : ∃ g, W2.heap.size = g := ⟨_, rfl⟩
        generalize hWn : W2.alloc (.cells #[.int .u8 (h : Int)] 5) = W3 at *
        have hK3 := hid (hK2.out.below hb hK2.out.lt)
        have hG3 := hid (hG2.out.below hb hG2.out.lt)
        have hB3 := hid (below_up hb hB2.out)
        clear hb hK2 hG2 hB2 hWn
        rw [hgb] at hcv ⊢
        clear hgb
        refine hK'.out _ _ (by exact ⟨hK3.out, hG3.out⟩) (fun hHeld => ?_)
        clear hK' K
        refine wpAnyH_ready (rs := [9]) (by kernel_rfl) (by simp) (AllReadyH.cons rfl (fun K hK => ?_) AllReadyH.nil)
        have hK' := hid hK
        clear hK
        rw [if_pos (by kernel_rfl)]
        simp only [ly1, ly2, ly3]
        have hcv' := hcv.out
        go_simp
        clear hcv'
        refine hK'.out _ _ (by exact ⟨hK3.out, hG3.out⟩) (fun hHeld => ?_)
        clear hK' K
        refine tkn 10 (.string (⟨#[240, 0, 0]⟩ ++ bh)) rfl (by kernel_rfl) (fun _ _ _ h => h) (.inl ⟨by kernel_rfl, fun w _ => by go_simp⟩) hHeld ?_
        simp only [ly, Act.put]
        refine tkn 11 (.string (⟨#[240, 0, 0]⟩ ++ bh ++ ⟨#[0, 0, 0, 3]⟩)) rfl (by kernel_rfl) (fun _ _ _ h => h) (.inl ⟨by kernel_rfl, fun w _ => by go_simp⟩) hHeld ?_
        simp only [ly, Act.put]
        refine tkn 14 (.string (⟨#[240, 0, 0]⟩ ++ bh ++ ⟨#[0, 0, 0, 3]⟩ ++ idt)) rfl (by kernel_rfl) (fun _ _ _ h => h) (.inl ⟨by kernel_rfl, fun w _ => by go_simp⟩) hHeld ?_
        simp only [ly, Act.put]
        refine tkn 18 (.string pb) rfl (by kernel_rfl) (fun _ _ _ h => h) (.inl ⟨by kernel_rfl, fun w _ => by have htt := htt'.out; go_simp⟩) hHeld ?_
        simp only [ly, Act.put]
        refine tkn 19 (.bool true) rfl (by kernel_rfl) (fun _ _ _ h => h) (.inl ⟨by kernel_rfl, fun w _ => by go_simp⟩) hHeld ?_
        simp only [ly, Act.put]
        refine tkn 20 (.bool true) rfl (by kernel_rfl) (fun _ _ _ h => h) (yieldsIf_pick _ _ _ rfl rfl rfl rfl) hHeld ?_
        simp only [ly, Act.put]
        refine tkn 21 (.bool true) rfl (by kernel_rfl) (fun _ _ _ h => h) (yieldsIf_assign _ rfl rfl rfl) hHeld ?_
        simp only [ly, Act.put]
        refine wpAnyH_done (by kernel_rfl) ?_ _
        go_wp2_with fail
        go_ret
        exact ⟨rfl, hB3.out⟩
      · obtain ⟨j, hkj⟩ : ∃ j, j + 1 = k := ⟨k - 1, by omega⟩
        have hkp : (0 : Int) < (k : Int) := by omega
        have hkn : (k : Int) < (n : Int) := by have := hLL.out; omega
        have hk0i : (0 : Int) ≤ (k : Int) := by omega
        have ukw : IntKind.i64.wrap ((k : Int) - 1) = (j : Int) := by have := hLL.out; have := hnn.out; have := h2n.out; rw [IntWalk.i64_in _ (by omega)]; omega
        have hkN : k < n := by have := hLL.out; omega
        obtain ⟨bk, hbk⟩ : ∃ b, be 4 k = b := ⟨_, rfl⟩
        have sbk : bk.size = 4 := by rw [← hbk, be_size]
        have si := hid16.out
        have hBk := hid (fun W => show Calls Try.prog 21 #[.int .i64 (k : Int), .int .i64 4] W fun e w' => e = .returned (.string bk) ∧ Below W.heap.size W w' from by rw [← hbk]; exact hBe.out k (by have := hLL.out; have := hnn.out; have := h2n.out; omega) W)
        have hTk := hid (fun W => hnT.out k W)
        have z1 : idt.size + bk.size ≤ 9223372036854775807 := by omega
        have z2 : idt.size + bk.size + 2 ≤ 9223372036854775807 := by omega
        by_cases hkm : m ≤ k
        · obtain ⟨q, hq⟩ : ∃ q, m + q = k := ⟨k - m, by omega⟩
          have hqm : q < m := by have := hnn.out; omega
          have hZk : Z ≤ (k : Int) := by have := hZZ.out; omega
          have uq : IntKind.i64.wrap ((k : Int) - Z) = (q : Int) := by have := hZZ.out; have := h2n.out; rw [IntWalk.i64_in _ (by omega)]; omega
          have hLf := hid (fun W => hL.out q k hq hqm W)
          rw [hbk] at hLf
          obtain ⟨y, hy⟩ : ∃ y, yk q = y := ⟨_, rfl⟩
          have hYq := hid (fun W => hY.out q hqm W)
          have hCy := hid (hyc.out q)
          have hTq := hid (fun W => hyT.out q W)
          have hysq := hysz.out q
          rw [hy] at hLf hYq hCy hTq hysq
          obtain ⟨ty, hty⟩ : ∃ t, txt y = t := ⟨_, rfl⟩
          rw [hty] at hLf hTq hysq
          have zz : idt.size + bk.size + 2 + ty.size ≤ 9223372036854775807 := by omega
          clear hq hy hbk hty sbk si hysq
          go_wp2_with fail
          have hb : Below wr.heap.size wr wr.drew := (Below.refl _ _).drew
          have hK1 := hid (hK0.out.below hb hK0.out.lt)
          have hG1 := hid (hG0.out.below hb hG0.out.lt)
          have hB1 := hid (below_up hb hB0.out)
          clear hb hK0 hG0 hB0
          refine wp_region_held_drew (S := fun V => Holds V q6 23 kc) (by kernel_rfl) (by exact hK1.out) (fun hHeld => ?_)
          generalize wr.drew = W1 at *
          refine tkn 0 (.pointer (some ⟨q6, 2, none⟩)) rfl (by kernel_rfl) (fun _ _ _ h => h) (.inl ⟨by kernel_rfl, fun w _ => by go_simp⟩) hHeld ?_
          simp only [ly, Act.put]
          refine tkn 1 (.string idt) rfl (by kernel_rfl) (fun _ _ _ h => h) (.inl ⟨by kernel_rfl, fun V hS => by have c2 := hS.c 2 _ k2.out; go_simp⟩) hHeld ?_
          simp only [ly, Act.put]
          refine tkn 2 (.int .i64 (k : Int)) rfl (by kernel_rfl) (fun _ _ _ h => h) (yieldsIf_move _ rfl rfl rfl) hHeld ?_
          simp only [ly, Act.put]
          refine wpAnyH_ready (rs := [3]) (by kernel_rfl) (by simp) (AllReadyH.cons rfl (fun K hK => ?_) AllReadyH.nil)
          have hK' := hid hK
          clear hK
          rw [if_pos (by kernel_rfl)]
          simp only [ly1, ly2, ly3]
          go_simp
          refine (hBk.out _).mono ?_
          rintro e W2 ⟨rfl, hb⟩
          have hK2 := hid (hK1.out.below hb hK1.out.lt)
          have hG2 := hid (hG1.out.below hb hG1.out.lt)
          have hB2 := hid (below_up hb hB1.out)
          clear hb hK1 hG1 hB1
          refine hK'.out _ _ (by exact hK2.out) (fun hHeld => ?_)
          clear hK' K
          refine tkn 4 (.string (idt ++ bk)) rfl (by kernel_rfl) (fun _ _ _ h => h) (.inl ⟨by kernel_rfl, fun w _ => by go_simp⟩) hHeld ?_
          simp only [ly, Act.put]
          refine tkn 5 (.string (idt ++ bk)) rfl (by kernel_rfl) (fun _ _ _ h => h) (yieldsIf_assign _ rfl rfl rfl) hHeld ?_
          simp only [ly, Act.put]
          refine wpAnyH_done (by kernel_rfl) ?_ _
          have c0 := hK2.out.c 0 _ k0.out
          have c2 := hK2.out.c 2 _ k2.out
          have c3 := hK2.out.c 3 _ k3.out
          go_wp2_with fail
          refine (hYq.out _).mono ?_
          rintro e W3 ⟨rfl, hb⟩
          have hK3 := hid (hK2.out.below hb hK2.out.lt)
          have hG3 := hid (hG2.out.below hb hG2.out.lt)
          have hB3 := hid (below_up hb hB2.out)
          clear hb hK2 hG2 hB2 c0 c2 c3
          have hG20x := hid hG3.out.lt
          go_wp2_with (first
            | ((with_reducible refine at_slot (some 11) ?_); refine wpList_run rfl (.pointer (some ⟨W3.heap.size, 0, none⟩)) (W3.alloc (.cells z32 44)) (by kernel_rfl) ?_)
            | ((with_reducible refine at_slot none ?_); refine wpList_store_mid rfl 44 (.tmp 11) (.tmp 53) rfl W3.heap.size 0 (byteCells y).toArray rfl rfl (by exact hCy.out.there W3) (by exact hCy.out.size) (by exact hCy.out.one) ?_; generalize hW : World.setCells _ _ _ _ = W4; obtain ⟨hN, hb⟩ := hCy.out.new hW; have hK4 := hid (hK3.out.below hb hK3.out.lt); have hG4 := hid (hG3.out.below hb hG3.out.lt); have hB4 := hid (below_up hb hB3.out); have hY4 := hid hN; clear hb hK3 hG3 hB3 hN; clear hW)
            | (go_at_call 16; refine (errNum_any _ _).mono ?_; rintro e w' ⟨rfl, rfl⟩)
            | ((with_reducible refine at_slot (some 62) ?_); refine wpList_load_mid rfl 44 (.tmp 11) rfl W3.heap.size 0 rfl (byteCells y) _ (by exact h_all hY4.out) Try.underlying44 rfl (by exact hCy.out.size') ?_)
            | fail)
          refine (hTq.out _).mono ?_
          rintro e W5 ⟨rfl, hb⟩
          have hK5 := hid (hK4.out.below hb hK4.out.lt)
          have hG5 := hid (hG4.out.below hb hG4.out.lt)
          have hB5 := hid (below_up hb hB4.out)
          have hY5 := hid (hY4.out.below hb hY4.out.lt)
          clear hb hK4 hG4 hB4 hY4
          go_wp2_with fail
          refine (hLf.out _).mono ?_
          rintro e W6 ⟨rfl, hb⟩
          have hK6 := hid (hK5.out.below hb hK5.out.lt)
          have hG6 := hid (hG5.out.below hb hG5.out.lt)
          have hB6 := hid (below_up hb hB5.out)
          have hY6 := hid (hY5.out.below hb hY5.out.lt)
          clear hb hK5 hG5 hB5 hY5
          try (rename_i hKK; refine hKK _ _ ?_; clear hKK)
          go_wp2_with fail
          refine (hTk.out _).mono ?_
          rintro e W7 ⟨rfl, hb⟩
          have hK7 := hid (hK6.out.below hb hK6.out.lt)
          have hG7 := hid (hG6.out.below hb hG6.out.lt)
          have hB7 := hid (below_up hb hB6.out)
          have hY7 := hid (hY6.out.below hb hY6.out.lt)
          clear hb hK6 hG6 hB6 hY6
          have cg := hG7.out.c k (.string ⟨#[]⟩) (by rw [nodeC_at hkN, if_neg (Nat.lt_irrefl k)])
          have fg := hG7.out.frozen k
          obtain ⟨V9, hV9⟩ : ∃ V9, W7.setCell ⟨g, k, none⟩ (.string (txt (nd k))) = V9 := ⟨_, rfl⟩
          have hXx : W7.setCells g k [.string (txt (nd k))] = V9 := hV9
          have hG99 := hid (show Holds V9 g 9 (nodeC nd n j) from by rw [← nodeC_set nd n j, hkj, ← hV9]; exact Holds.set hG7.out k _)
          have hK99 := hid (holds_far hK7.out (by omega) hXx)
          have hB99 := hid (below_put hB7.out (by omega) hXx)
          have hV9' := hid hV9
          clear hXx hV9
          go_wp2_with fail
          rw [hV9'.out]
          go_roundw
          case rel => exact ⟨j, by omega, by go_num, hK99.out, hG99.out, hB99.out⟩
          case measure => simp [intOf]; omega
        · have hkZ : ¬ Z ≤ (k : Int) := by have := hZZ.out; omega
          have hJk := hid (fun W => hJ.out k (by omega) (by omega) W)
          rw [hbk] at hJk
          have s1 := hnl.out (2 * k)
          have s2 := hnl.out (2 * k + 1)
          have u1 : IntKind.i64.wrap (2 * (k : Int)) = ((2 * k : Nat) : Int) := by rw [IntWalk.i64_in _ (by have := h2n.out; have := hnn.out; have := hLL.out; omega)]; omega
          have u2 : IntKind.i64.wrap (((2 * k : Nat) : Int) + 1) = ((2 * k + 1 : Nat) : Int) := by rw [IntWalk.i64_in _ (by have := h2n.out; have := hnn.out; have := hLL.out; omega)]; omega
          obtain ⟨a, ha⟩ : ∃ a, 2 * k = a := ⟨_, rfl⟩
          obtain ⟨b, hb2⟩ : ∃ b, a + 1 = b := ⟨_, rfl⟩
          rw [ha] at hJk s1 s2 u1 u2
          rw [hb2] at hJk s2 u2
          have han : a < n := by have := hnn.out; omega
          have hbn : b < n := by have := hnn.out; omega
          have hai : (a : Int) < (n : Int) := by omega
          have hbi : (b : Int) < (n : Int) := by omega
          have ha0 : (0 : Int) ≤ (a : Int) := by omega
          have hb0 : (0 : Int) ≤ (b : Int) := by omega
          obtain ⟨ta, hta⟩ : ∃ t, txt (nd a) = t := ⟨_, rfl⟩
          obtain ⟨tb, htb⟩ : ∃ t, txt (nd b) = t := ⟨_, rfl⟩
          have hab := hid (fun (V : World) (r : Nat) (hr : r ≤ k) (hG : Holds V g 9 (nodeC nd n r)) => And.intro (hG.c a (.string ta) (by rw [← hta]; exact nodeC_got han (by omega))) (hG.c b (.string tb) (by rw [← htb]; exact nodeC_got hbn (by omega))))
          rw [hta, htb] at hJk
          rw [hta] at s1
          rw [htb] at s2
          have z5 : idt.size + bk.size + 2 + ta.size ≤ 9223372036854775807 := by omega
          have z6 : idt.size + bk.size + 2 + ta.size + tb.size ≤ 9223372036854775807 := by omega
          clear ha hb2 hta htb hbk sbk si s1 s2
          go_wp2_with fail
          have hb : Below wr.heap.size wr wr.drew := (Below.refl _ _).drew
          have hK1 := hid (hK0.out.below hb hK0.out.lt)
          have hG1 := hid (hG0.out.below hb hG0.out.lt)
          have hB1 := hid (below_up hb hB0.out)
          clear hb hK0 hG0 hB0
          refine wp_region_held_drew (S := fun V => Holds V q6 23 kc) (by kernel_rfl) (by exact hK1.out) (fun hHeld => ?_)
          generalize wr.drew = W1 at *
          refine tkn 0 (.pointer (some ⟨q6, 2, none⟩)) rfl (by kernel_rfl) (fun _ _ _ h => h) (.inl ⟨by kernel_rfl, fun w _ => by go_simp⟩) hHeld ?_
          simp only [ly, Act.put]
          refine tkn 1 (.string idt) rfl (by kernel_rfl) (fun _ _ _ h => h) (.inl ⟨by kernel_rfl, fun V hS => by have c2 := hS.c 2 _ k2.out; go_simp⟩) hHeld ?_
          simp only [ly, Act.put]
          refine tkn 2 (.int .i64 (k : Int)) rfl (by kernel_rfl) (fun _ _ _ h => h) (yieldsIf_move _ rfl rfl rfl) hHeld ?_
          simp only [ly, Act.put]
          refine wpAnyH_ready (rs := [3]) (by kernel_rfl) (by simp) (AllReadyH.cons rfl (fun K hK => ?_) AllReadyH.nil)
          have hK' := hid hK
          clear hK
          rw [if_pos (by kernel_rfl)]
          simp only [ly1, ly2, ly3]
          go_simp
          refine (hBk.out _).mono ?_
          rintro e W2 ⟨rfl, hb⟩
          have hK2 := hid (hK1.out.below hb hK1.out.lt)
          have hG2 := hid (hG1.out.below hb hG1.out.lt)
          have hB2 := hid (below_up hb hB1.out)
          clear hb hK1 hG1 hB1
          refine hK'.out _ _ (by exact hK2.out) (fun hHeld => ?_)
          clear hK' K
          refine tkn 4 (.string (idt ++ bk)) rfl (by kernel_rfl) (fun _ _ _ h => h) (.inl ⟨by kernel_rfl, fun w _ => by go_simp⟩) hHeld ?_
          simp only [ly, Act.put]
          refine tkn 5 (.string (idt ++ bk)) rfl (by kernel_rfl) (fun _ _ _ h => h) (yieldsIf_assign _ rfl rfl rfl) hHeld ?_
          simp only [ly, Act.put]
          refine wpAnyH_done (by kernel_rfl) ?_ _
          go_wp2_with fail
          have hb : Below W2.heap.size W2 W2.drew := (Below.refl _ _).drew
          have hK3 := hid (hK2.out.below hb hK2.out.lt)
          have hG3 := hid (hG2.out.below hb hG2.out.lt)
          have hB3 := hid (below_up hb hB2.out)
          clear hb hK2 hG2 hB2
          refine wp_region_held_drew (S := fun V => V.cell? ⟨g, a, none⟩ = some (.string ta) ∧ V.cell? ⟨g, b, none⟩ = some (.string tb)) (by kernel_rfl) (by exact hab.out _ _ (by omega) hG3.out) (fun hHeld => ?_)
          generalize W2.drew = W3 at *
          refine tkn 0 (.slice (some ⟨g, 0, none⟩) n n) rfl (by kernel_rfl) (fun _ _ _ h => h) (yieldsIf_move _ rfl rfl rfl) hHeld ?_
          simp only [ly, Act.put]
          refine tkn 1 (.int .i64 (k : Int)) rfl (by kernel_rfl) (fun _ _ _ h => h) (yieldsIf_move _ rfl rfl rfl) hHeld ?_
          simp only [ly, Act.put]
          refine tkn 2 (.string (idt ++ bk)) rfl (by kernel_rfl) (fun _ _ _ h => h) (yieldsIf_move _ rfl rfl rfl) hHeld ?_
          simp only [ly, Act.put]
          refine tkn 3 (.string (idt ++ bk ++ ⟨#[131, 131]⟩)) rfl (by kernel_rfl) (fun _ _ _ h => h) (.inl ⟨by kernel_rfl, fun w _ => by go_simp⟩) hHeld ?_
          simp only [ly, Act.put]
          refine tkn 4 (.slice (some ⟨g, 0, none⟩) n n) rfl (by kernel_rfl) (fun _ _ _ h => h) (yieldsIf_move _ rfl rfl rfl) hHeld ?_
          simp only [ly, Act.put]
          refine tkn 5 (.int .i64 (k : Int)) rfl (by kernel_rfl) (fun _ _ _ h => h) (yieldsIf_move _ rfl rfl rfl) hHeld ?_
          simp only [ly, Act.put]
          refine tkn 6 (.int .i64 (a : Int)) rfl (by kernel_rfl) (fun _ _ _ h => h) (.inl ⟨by kernel_rfl, fun w _ => by go_simp⟩) hHeld ?_
          simp only [ly, Act.put]
          refine tkn 7 (.pointer (some ⟨g, a, none⟩)) rfl (by kernel_rfl) (fun _ _ _ h => h) (.inl ⟨by kernel_rfl, fun w _ => by go_simp⟩) hHeld ?_
          simp only [ly, Act.put]
          refine tkn 8 (.string ta) rfl (by kernel_rfl) (fun _ _ _ h => h) (.inl ⟨by kernel_rfl, fun V hS => by have c2 := hS.1; go_simp⟩) hHeld ?_
          simp only [ly, Act.put]
          refine tkn 9 (.string (idt ++ bk ++ ⟨#[131, 131]⟩ ++ ta)) rfl (by kernel_rfl) (fun _ _ _ h => h) (.inl ⟨by kernel_rfl, fun w _ => by go_simp⟩) hHeld ?_
          simp only [ly, Act.put]
          refine tkn 10 (.slice (some ⟨g, 0, none⟩) n n) rfl (by kernel_rfl) (fun _ _ _ h => h) (yieldsIf_move _ rfl rfl rfl) hHeld ?_
          simp only [ly, Act.put]
          refine tkn 11 (.int .i64 (k : Int)) rfl (by kernel_rfl) (fun _ _ _ h => h) (yieldsIf_move _ rfl rfl rfl) hHeld ?_
          simp only [ly, Act.put]
          refine tkn 12 (.int .i64 (a : Int)) rfl (by kernel_rfl) (fun _ _ _ h => h) (.inl ⟨by kernel_rfl, fun w _ => by go_simp⟩) hHeld ?_
          simp only [ly, Act.put]
          refine tkn 13 (.int .i64 (b : Int)) rfl (by kernel_rfl) (fun _ _ _ h => h) (.inl ⟨by kernel_rfl, fun w _ => by go_simp⟩) hHeld ?_
          simp only [ly, Act.put]
          refine tkn 14 (.pointer (some ⟨g, b, none⟩)) rfl (by kernel_rfl) (fun _ _ _ h => h) (.inl ⟨by kernel_rfl, fun w _ => by go_simp⟩) hHeld ?_
          simp only [ly, Act.put]
          refine tkn 15 (.string tb) rfl (by kernel_rfl) (fun _ _ _ h => h) (.inl ⟨by kernel_rfl, fun V hS => by have c2 := hS.2; go_simp⟩) hHeld ?_
          simp only [ly, Act.put]
          refine tkn 16 (.string (idt ++ bk ++ ⟨#[131, 131]⟩ ++ ta ++ tb)) rfl (by kernel_rfl) (fun _ _ _ h => h) (.inl ⟨by kernel_rfl, fun w _ => by go_simp⟩) hHeld ?_
          simp only [ly, Act.put]
          refine wpAnyH_ready (rs := [17]) (by kernel_rfl) (by simp) (AllReadyH.cons rfl (fun K hK => ?_) AllReadyH.nil)
          have hK' := hid hK
          clear hK
          rw [if_pos (by kernel_rfl)]
          simp only [ly1, ly2, ly3]
          go_simp
          refine (hJk.out _).mono ?_
          rintro e W4 ⟨rfl, hb⟩
          have hK4 := hid (hK3.out.below hb hK3.out.lt)
          have hG4 := hid (hG3.out.below hb hG3.out.lt)
          have hB4 := hid (below_up hb hB3.out)
          clear hb hK3 hG3 hB3
          skip
          refine hK'.out _ _ (by exact hab.out _ _ (by omega) hG4.out) (fun hHeld => ?_)
          clear hK' K
          refine wpAnyH_ready (rs := [18]) (by kernel_rfl) (by simp) (AllReadyH.cons rfl (fun K hK => ?_) AllReadyH.nil)
          have hK' := hid hK
          clear hK
          rw [if_pos (by kernel_rfl)]
          simp only [ly1, ly2, ly3]
          go_simp
          refine (hTk.out _).mono ?_
          rintro e W5 ⟨rfl, hb⟩
          have hK5 := hid (hK4.out.below hb hK4.out.lt)
          have hG5 := hid (hG4.out.below hb hG4.out.lt)
          have hB5 := hid (below_up hb hB4.out)
          clear hb hK4 hG4 hB4
          refine hK'.out _ _ (by exact hab.out _ _ (by omega) hG5.out) (fun hHeld => ?_)
          clear hK' K
          refine tkn 19 (.pointer (some ⟨g, k, none⟩)) rfl (by kernel_rfl) (fun _ _ _ h => h) (.inl ⟨by kernel_rfl, fun w _ => by go_simp⟩) hHeld ?_
          simp only [ly, Act.put]
          refine wpAnyH_ready (rs := [20]) (by kernel_rfl) (by simp) (AllReadyH.cons rfl (fun K hK => ?_) AllReadyH.nil)
          have hK' := hid hK
          clear hK
          rw [if_pos (by kernel_rfl)]
          simp only [ly1, ly2, ly3]
          have cg := hG5.out.c k (.string ⟨#[]⟩) (by rw [nodeC_at hkN, if_neg (Nat.lt_irrefl k)])
          have fg := hG5.out.frozen k
          go_simp
          generalize hXy : World.setCell _ _ _ = W6
          have hXx : W5.setCells g k [.string (txt (nd k))] = W6 := hXy
          have hG6 := hid (show Holds W6 g 9 (nodeC nd n j) from by rw [← nodeC_set nd n j, hkj, ← hXy]; exact Holds.set hG5.out k _)
          have hK6 := hid (holds_far hK5.out (by omega) hXx)
          have hB6 := hid (below_put hB5.out (by omega) hXx)
          clear cg fg hXx hXy
          refine hK'.out _ _ (by exact hab.out _ _ (by omega) hG6.out) (fun hHeld => ?_)
          clear hK' K
          refine wpAnyH_done (by kernel_rfl) ?_ _
          go_wp2_with fail
          go_roundw
          case rel => exact ⟨j, by omega, by go_num, hK6.out, hG6.out, hB6.out⟩
          case measure => simp [intOf]; omega)

end Go.Proofs.Ytmfajekfipfjpaa
