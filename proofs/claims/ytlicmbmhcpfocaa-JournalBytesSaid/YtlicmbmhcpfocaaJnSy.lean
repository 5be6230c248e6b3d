/- Layer 8, the reference: Seal; the law JournalSeals.
   Layer 8: the law JournalSeals.
   Layer 8: the law JournalBytes. -/
import Derived.Test.YtlicmbmhcpfocaaJnAw
import Derived.Test.YtlicmbmhcpfocaaRefTagX
import Derived.Test.YtlicmbmhcpfocaaRefBe
import Derived.Test.YtlicmbmhcpfocaaArith
namespace Go.Proofs.Ytlicmbmhcpfocaa
open Go.RowKit
open Go.Lib (strCells strCells_length strCells_oneCell)
attribute [local irreducible] Sha.compress Sha.blocks Sha.sha Sha.pad

theorem rTag4_any {A : Option Addr} {m : Nat} {a b c d : ByteArray} {w : World} (hX : Texts w w.heap.size A 4 [a, b, c, d]) (hs : a.size + (b.size + (c.size + d.size)) ≤ 60000) :
    Calls Try.prog 20 #[.int .i64 4, .slice A 4 m] w fun e w' => e = .returned (.tuple #[.agg (byteCells (Sha.sha (tagL 4 [a, b, c, d]))).toArray, .int .i64 0]) ∧ Below w.heap.size w w' := by
  have hz : ∀ s ∈ [a, b, c, d], s.size ≤ 140737488351232 := fun s h => by
    simp only [List.mem_cons, List.not_mem_nil, or_false] at h
    rcases h with rfl | rfl | rfl | rfl <;> omega
  have hm : tagMay 4 [a, b, c, d] = true := by
    unfold tagMay
    refine decide_eq_true ⟨by omega, by omega, ?_⟩
    simp only [totS]
    omega
  refine (refTag_any 4 A 4 m _ _ hX (by decide) hz).mono ?_
  rintro e w' ⟨rfl, hb⟩
  refine ⟨?_, hb⟩
  unfold tagAns
  rw [if_pos hm]
  rfl
set_option maxRecDepth 100000 in
set_option maxHeartbeats 6000000 in
theorem rseal_any (prev : List UInt8) (hp : prev.length = 32) (s kd : Nat) (data : ByteArray) (hs : s ≤ 4294967295) (hk : kd ≤ 255) (hd : data.size ≤ 1024) (w : World) :
    Calls Try.prog 29 #[.string (txt prev), .int .i64 (s : Int), .agg (recV ⟨(kd : Int), data⟩).toArray] w fun e w' => e = .returned (.string (txt (recHash prev s kd data))) ∧ Below w.heap.size w w' := by
  have hC := hid (hash_cells (recHash prev s kd data) (recHash_len _ _ _ _))
  have hTg := hid (fun (W : World) (A : Option Addr) (m : Nat) (h : Texts W W.heap.size A 4 [txt prev, be 4 s, be 1 kd, data]) => show Calls Try.prog 20 #[.int .i64 4, .slice A 4 m] W fun e w' => e = .returned (.tuple #[.agg (byteCells (recHash prev s kd data)).toArray, .int .i64 0]) ∧ Below W.heap.size W w' from rTag4_any h (by rw [txt_size, be_size, be_size, hp]; omega))
  have hu4 := hid (fun W => Be_any (s : Int) 4 4 rfl (by decide) s rfl (by omega) W)
  have hu1 := hid (fun W => Be_any (kd : Int) 1 1 rfl (by decide) kd rfl (by omega) W)
  have hT := hid (fun W => show Calls Try.prog 11 #[.agg (byteCells (recHash prev s kd data)).toArray] W fun e w' => e = .returned (.string (txt (recHash prev s kd data))) ∧ Below W.heap.size W w' from tT_any _ (recHash_len _ _ _ _) W)
  show Calls Try.prog 29 #[.string (txt prev), .int .i64 (s : Int), .agg #[.int .i64 (kd : Int), .string data]] w _
  obtain ⟨k, hkk⟩ : ∃ k : Int, (kd : Int) = k := ⟨_, rfl⟩
  generalize recHash prev s kd data = rh at *
  generalize byteCells rh = cs at *
  generalize txt rh = ts at *
  generalize be 4 s = t4 at *
  generalize be 1 kd = t1 at *
  generalize txt prev = tp at *
  rw [hkk] at hu1 ⊢
  clear hp hs hk hd hkk
  obtain ⟨g, hg⟩ : ∃ g, w.heap.size = g := ⟨_, rfl⟩
  obtain ⟨W0, hW0⟩ : ∃ V, w.alloc (.cells #[.int .i64 k, .string data] 25) = V := ⟨_, rfl⟩
  have hQ0 := hid (show Holds W0 g 25 [.int .i64 k, .string data] from by rw [← hW0, ← hg]; exact Holds.new _ 25 #[.int .i64 k, .string data])
  have hB0 := hid (show Below w.heap.size w W0 from by rw [← hW0]; exact (Below.refl _ _).alloc (Nat.le_refl _) _)
  have hW0' := hid hW0
  have hgw := hid hg
  have c0 := hQ0.out.cK 0 _ rfl
  have c1 := hQ0.out.cK 1 _ rfl
  clear hW0 hg
  clear c0 c1
  go_enter Try.func29, Try.ntmps29
  go_wp2_with (first
    | ((with_reducible refine at_slot (some 5) ?_); refine wpList_run rfl (.pointer (some ⟨g, 0, none⟩)) (w.alloc (.cells #[.int .i64 k, .string data] 25)) (by rw [← hgw.out]; kernel_rfl) ?_; rw [hW0'.out])
    | fail)
  refine wp_region_mid (fun a a' W' => ∃ gh gt : Nat, a' = puts a [(10, .string tp), (11, .int .i64 (s : Int)), (12, .string t4), (13, .pointer (some ⟨g, 0, none⟩)), (14, .int .i64 k), (15, .string t1), (16, .pointer (some ⟨g, 1, none⟩)), (17, .string data), (18, .slice (some ⟨gt, 0, none⟩) 4 4), (19, .tuple #[.agg cs.toArray, .int .i64 0]), (9, .tuple #[.agg cs.toArray, .int .i64 0]), (20, .agg cs.toArray), (21, .int .i64 0), (7, .pointer (some ⟨gh, 0, none⟩)), (8, .int .i64 0)] ∧ Holds W' gh 23 cs ∧ Below w.heap.size w W') ?_ ?_
  · skip
    have hb : Below W0.heap.size W0 W0.drew := (Below.refl _ _).drew
    have hQ1 := hid (hQ0.out.below hb hQ0.out.lt)
    have hB1 := hid (bup hb hB0.out)
    clear hb hQ0 hB0
    refine wp_region_held_drew (S := fun V => Holds V g 25 [.int .i64 k, .string data]) (by kernel_rfl) (by exact hQ1.out) (fun hHeld => ?_)
    generalize W0.drew = W1 at *
    refine tkn 0 (.string tp) rfl (by kernel_rfl) (fun _ _ _ h => h) (yieldsIf_move _ rfl rfl rfl) hHeld ?_
    simp only [ly, Act.put]
    refine tkn 1 (.int .i64 (s : Int)) rfl (by kernel_rfl) (fun _ _ _ h => h) (yieldsIf_move _ rfl rfl rfl) hHeld ?_
    simp only [ly, Act.put]
    refine tkn 3 (.pointer (some ⟨g, 0, none⟩)) rfl (by kernel_rfl) (fun _ _ _ h => h) (.inl ⟨by kernel_rfl, fun w _ => by go_simp⟩) hHeld ?_
    simp only [ly, Act.put]
    refine tkn 4 (.int .i64 k) rfl (by kernel_rfl) (fun _ _ _ h => h) (.inl ⟨by kernel_rfl, fun V hS => by have c0 := hS.cK 0 _ rfl; go_simp⟩) hHeld ?_
    simp only [ly, Act.put]
    refine tkn 6 (.pointer (some ⟨g, 1, none⟩)) rfl (by kernel_rfl) (fun _ _ _ h => h) (.inl ⟨by kernel_rfl, fun w _ => by go_simp⟩) hHeld ?_
    simp only [ly, Act.put]
    refine tkn 7 (.string data) rfl (by kernel_rfl) (fun _ _ _ h => h) (.inl ⟨by kernel_rfl, fun V hS => by have c1 := hS.cK 1 _ rfl; go_simp⟩) hHeld ?_
    simp only [ly, Act.put]
    refine wpAnyH_ready (rs := [2, 13]) (by kernel_rfl) (by simp) (AllReadyH.cons rfl (fun K hK => ?_) (AllReadyH.cons rfl (fun K hK => ?_) AllReadyH.nil))
    · skip
      have hK' := hid hK
      clear hK
      rw [if_pos (by kernel_rfl)]
      simp only [ly1, ly2, ly3]
      go_simp
      refine (hu4.out _).mono ?_
      rintro e W2 ⟨rfl, hb⟩
      have hQ2 := hid (hQ1.out.below hb hQ1.out.lt)
      have hB2 := hid (bup hb hB1.out)
      clear hb hQ1 hB1
      refine hK'.out _ _ (by exact hQ2.out) (fun hHeld => ?_)
      clear hK' K
      refine wpAnyH_ready (rs := [5, 13]) (by kernel_rfl) (by simp) (AllReadyH.cons rfl (fun K hK => ?_) (AllReadyH.cons rfl (fun K hK => ?_) AllReadyH.nil))
      · skip
        have hK' := hid hK
        clear hK
        rw [if_pos (by kernel_rfl)]
        simp only [ly1, ly2, ly3]
        go_simp
        refine (hu1.out _).mono ?_
        rintro e W3 ⟨rfl, hb⟩
        have hQ3 := hid (hQ2.out.below hb hQ2.out.lt)
        have hB3 := hid (bup hb hB2.out)
        clear hb hQ2 hB2
        refine hK'.out _ _ (by exact hQ3.out) (fun hHeld => ?_)
        clear hK' K
        refine wpAnyH_ready (rs := [8, 13]) (by kernel_rfl) (by simp) (AllReadyH.cons rfl (fun K hK => ?_) (AllReadyH.cons rfl (fun K hK => ?_) AllReadyH.nil))
        · skip
          have hK' := hid hK
          clear hK
          rw [if_pos (by kernel_rfl)]
          simp only [ly1, ly2, ly3]
          obtain ⟨gt, hgt⟩ : ∃ g, W3.heap.size = g := ⟨_, rfl⟩
          refine wp_run' (.slice (some ⟨gt, 0, none⟩) 4 4) (W3.alloc (.cells #[.string tp, .string t4, .string t1, .string data] 9)) (by rw [← hgt]; kernel_rfl) ?_
          have hb := (Below.refl W3.heap.size W3).alloc (Nat.le_refl _) (.cells #[.string tp, .string t4, .string t1, .string data] 9)
          have hN := Texts.new W3 [tp, t4, t1, data] #[.string tp, .string t4, .string t1, .string data] rfl 4 rfl 9
          rw [hgt] at hN
          generalize W3.alloc (.cells #[.string tp, .string t4, .string t1, .string data] 9) = W4 at *
          have hQ4 := hid (hQ3.out.below hb hQ3.out.lt)
          have hB4 := hid (bup hb hB3.out)
          have hT4 := hid hN
          clear hb hQ3 hB3 hN hgt
          refine hK'.out _ _ (by exact hQ4.out) (fun hHeld => ?_)
          clear hK' K
          refine wpAnyH_ready (rs := [9, 13]) (by kernel_rfl) (by simp) (AllReadyH.cons rfl (fun K hK => ?_) (AllReadyH.cons rfl (fun K hK => ?_) AllReadyH.nil))
          · skip
            have hK' := hid hK
            clear hK
            rw [if_pos (by kernel_rfl)]
            simp only [ly1, ly2, ly3]
            go_simp
            refine (hTg.out _ _ _ hT4.out).mono ?_
            rintro e W5 ⟨rfl, hb⟩
            have hQ5 := hid (hQ4.out.below hb hQ4.out.lt)
            have hB5 := hid (bup hb hB4.out)
            clear hb hQ4 hB4 hT4
            refine hK'.out _ _ (by exact hQ5.out) (fun hHeld => ?_)
            clear hK' K
            refine tkn 10 (.tuple #[.agg cs.toArray, .int .i64 0]) rfl (by kernel_rfl) (fun _ _ _ h => h) (yieldsIf_move _ rfl rfl rfl) hHeld ?_
            simp only [ly, Act.put]
            refine tkn 11 (.agg cs.toArray) rfl (by kernel_rfl) (fun _ _ _ h => h) (.inl ⟨by kernel_rfl, fun w _ => by go_simp⟩) hHeld ?_
            simp only [ly, Act.put]
            refine tkn 12 (.int .i64 0) rfl (by kernel_rfl) (fun _ _ _ h => h) (.inl ⟨by kernel_rfl, fun w _ => by go_simp⟩) hHeld ?_
            simp only [ly, Act.put]
            refine wpAnyH_ready (rs := [13]) (by kernel_rfl) (by simp) (AllReadyH.cons rfl (fun K hK => ?_) AllReadyH.nil)
            have hK' := hid hK
            clear hK
            rw [if_pos (by kernel_rfl)]
            simp only [ly1, ly2, ly3]
            obtain ⟨gh, hgh⟩ : ∃ g, W5.heap.size = g := ⟨_, rfl⟩
            refine wp_run' (.pointer (some ⟨gh, 0, none⟩)) (W5.alloc (.cells z32 23)) (by rw [← hgh]; kernel_rfl) ?_
            have hb := (Below.refl W5.heap.size W5).alloc (Nat.le_refl _) (.cells z32 23)
            have hN : Holds (W5.alloc (.cells z32 23)) gh 23 z32.toList := by rw [← hgh]; exact Holds.new _ _ _
            have hghx := hid (show g < gh from by rw [← hgh]; exact hQ5.out.lt)
            generalize W5.alloc (.cells z32 23) = W6 at *
            have hQ6 := hid (hQ5.out.below hb hQ5.out.lt)
            have hB6 := hid (bup hb hB5.out)
            have hR6 := hid hN
            clear hb hQ5 hB5 hN hgh
            refine hK'.out _ _ (by exact hQ6.out) (fun hHeld => ?_)
            clear hK' K
            refine wpAnyH_ready (rs := [14]) (by kernel_rfl) (by simp) (AllReadyH.cons rfl (fun K hK => ?_) AllReadyH.nil)
            have hK' := hid hK
            clear hK
            rw [if_pos (by kernel_rfl)]
            simp only [ly1, ly2, ly3]
            refine wp_store_mid _ _ _ rfl gh 0 cs.toArray rfl rfl (by exact hC.out.there' hR6.out rfl) (by exact hC.out.size) (by exact hC.out.one) ?_
            generalize hXx : World.setCells _ _ _ _ = W7
            have hR7 := hid (Holds.over (cs := cs) hR6.out (by rw [hC.out.len]; rfl) hXx)
            have hQ7 := hid (holds_far hQ6.out (by have := hghx.out; omega) hXx)
            have hB7 := hid (below_put hB6.out (by have := hghx.out; have := hgw.out; omega) hXx)
            clear hXx hR6 hQ6 hB6
            refine hK'.out _ _ (by exact hQ7.out) (fun hHeld => ?_)
            clear hK' K
            refine tkn 15 (.int .i64 0) rfl (by kernel_rfl) (fun _ _ _ h => h) (yieldsIf_assign _ rfl rfl rfl) hHeld ?_
            simp only [ly, Act.put]
            refine wpAnyH_done (by kernel_rfl) ?_ _
            exact ⟨gh, gt, by simp only [puts, ly, Act.put], hR7.out, hB7.out⟩
          · skip
            have hK' := hid hK
            clear hK
            rw [if_pos (by kernel_rfl)]
            simp only [ly1, ly2, ly3]
            obtain ⟨gh, hgh⟩ : ∃ g, W4.heap.size = g := ⟨_, rfl⟩
            refine wp_run' (.pointer (some ⟨gh, 0, none⟩)) (W4.alloc (.cells z32 23)) (by rw [← hgh]; kernel_rfl) ?_
            have hb := (Below.refl W4.heap.size W4).alloc (Nat.le_refl _) (.cells z32 23)
            have hN : Holds (W4.alloc (.cells z32 23)) gh 23 z32.toList := by rw [← hgh]; exact Holds.new _ _ _
            have hghx := hid (show g < gh from by rw [← hgh]; exact hQ4.out.lt)
            generalize W4.alloc (.cells z32 23) = W5 at *
            have hQ5 := hid (hQ4.out.below hb hQ4.out.lt)
            have hB5 := hid (bup hb hB4.out)
            have hT5 := hid ((hT4.out.below hb).more hb.size)
            have hR5 := hid hN
            clear hb hQ4 hB4 hT4 hN hgh
            refine hK'.out _ _ (by exact hQ5.out) (fun hHeld => ?_)
            clear hK' K
            refine wpAnyH_ready (rs := [9]) (by kernel_rfl) (by simp) (AllReadyH.cons rfl (fun K hK => ?_) AllReadyH.nil)
            have hK' := hid hK
            clear hK
            rw [if_pos (by kernel_rfl)]
            simp only [ly1, ly2, ly3]
            go_simp
            refine (hTg.out _ _ _ hT5.out).mono ?_
            rintro e W6 ⟨rfl, hb⟩
            have hQ6 := hid (hQ5.out.below hb hQ5.out.lt)
            have hB6 := hid (bup hb hB5.out)
            have hR6 := hid (hR5.out.below hb hR5.out.lt)
            clear hb hQ5 hB5 hT5 hR5
            refine hK'.out _ _ (by exact hQ6.out) (fun hHeld => ?_)
            clear hK' K
            refine tkn 10 (.tuple #[.agg cs.toArray, .int .i64 0]) rfl (by kernel_rfl) (fun _ _ _ h => h) (yieldsIf_move _ rfl rfl rfl) hHeld ?_
            simp only [ly, Act.put]
            refine tkn 11 (.agg cs.toArray) rfl (by kernel_rfl) (fun _ _ _ h => h) (.inl ⟨by kernel_rfl, fun w _ => by go_simp⟩) hHeld ?_
            simp only [ly, Act.put]
            refine tkn 12 (.int .i64 0) rfl (by kernel_rfl) (fun _ _ _ h => h) (.inl ⟨by kernel_rfl, fun w _ => by go_simp⟩) hHeld ?_
            simp only [ly, Act.put]
            refine wpAnyH_ready (rs := [14]) (by kernel_rfl) (by simp) (AllReadyH.cons rfl (fun K hK => ?_) AllReadyH.nil)
            have hK' := hid hK
            clear hK
            rw [if_pos (by kernel_rfl)]
            simp only [ly1, ly2, ly3]
            refine wp_store_mid _ _ _ rfl gh 0 cs.toArray rfl rfl (by exact hC.out.there' hR6.out rfl) (by exact hC.out.size) (by exact hC.out.one) ?_
            generalize hXx : World.setCells _ _ _ _ = W7
            have hR7 := hid (Holds.over (cs := cs) hR6.out (by rw [hC.out.len]; rfl) hXx)
            have hQ7 := hid (holds_far hQ6.out (by have := hghx.out; omega) hXx)
            have hB7 := hid (below_put hB6.out (by have := hghx.out; have := hgw.out; omega) hXx)
            clear hXx hR6 hQ6 hB6
            refine hK'.out _ _ (by exact hQ7.out) (fun hHeld => ?_)
            clear hK' K
            refine tkn 15 (.int .i64 0) rfl (by kernel_rfl) (fun _ _ _ h => h) (yieldsIf_assign _ rfl rfl rfl) hHeld ?_
            simp only [ly, Act.put]
            refine wpAnyH_done (by kernel_rfl) ?_ _
            exact ⟨gh, gt, by simp only [puts, ly, Act.put], hR7.out, hB7.out⟩
        · skip
          have hK' := hid hK
          clear hK
          rw [if_pos (by kernel_rfl)]
          simp only [ly1, ly2, ly3]
          obtain ⟨gh, hgh⟩ : ∃ g, W3.heap.size = g := ⟨_, rfl⟩
          refine wp_run' (.pointer (some ⟨gh, 0, none⟩)) (W3.alloc (.cells z32 23)) (by rw [← hgh]; kernel_rfl) ?_
          have hb := (Below.refl W3.heap.size W3).alloc (Nat.le_refl _) (.cells z32 23)
          have hN : Holds (W3.alloc (.cells z32 23)) gh 23 z32.toList := by rw [← hgh]; exact Holds.new _ _ _
          have hghx := hid (show g < gh from by rw [← hgh]; exact hQ3.out.lt)
          generalize W3.alloc (.cells z32 23) = W4 at *
          have hQ4 := hid (hQ3.out.below hb hQ3.out.lt)
          have hB4 := hid (bup hb hB3.out)
          have hR4 := hid hN
          clear hb hQ3 hB3 hN hgh
          refine hK'.out _ _ (by exact hQ4.out) (fun hHeld => ?_)
          clear hK' K
          refine wpAnyH_ready (rs := [8]) (by kernel_rfl) (by simp) (AllReadyH.cons rfl (fun K hK => ?_) AllReadyH.nil)
          have hK' := hid hK
          clear hK
          rw [if_pos (by kernel_rfl)]
          simp only [ly1, ly2, ly3]
          obtain ⟨gt, hgt⟩ : ∃ g, W4.heap.size = g := ⟨_, rfl⟩
          refine wp_run' (.slice (some ⟨gt, 0, none⟩) 4 4) (W4.alloc (.cells #[.string tp, .string t4, .string t1, .string data] 9)) (by rw [← hgt]; kernel_rfl) ?_
          have hb := (Below.refl W4.heap.size W4).alloc (Nat.le_refl _) (.cells #[.string tp, .string t4, .string t1, .string data] 9)
          have hN := Texts.new W4 [tp, t4, t1, data] #[.string tp, .string t4, .string t1, .string data] rfl 4 rfl 9
          rw [hgt] at hN
          generalize W4.alloc (.cells #[.string tp, .string t4, .string t1, .string data] 9) = W5 at *
          have hQ5 := hid (hQ4.out.below hb hQ4.out.lt)
          have hB5 := hid (bup hb hB4.out)
          have hR5 := hid (hR4.out.below hb hR4.out.lt)
          have hT5 := hid hN
          clear hb hQ4 hB4 hR4 hN hgt
          refine hK'.out _ _ (by exact hQ5.out) (fun hHeld => ?_)
          clear hK' K
          refine wpAnyH_ready (rs := [9]) (by kernel_rfl) (by simp) (AllReadyH.cons rfl (fun K hK => ?_) AllReadyH.nil)
          have hK' := hid hK
          clear hK
          rw [if_pos (by kernel_rfl)]
          simp only [ly1, ly2, ly3]
          go_simp
          refine (hTg.out _ _ _ hT5.out).mono ?_
          rintro e W6 ⟨rfl, hb⟩
          have hQ6 := hid (hQ5.out.below hb hQ5.out.lt)
          have hB6 := hid (bup hb hB5.out)
          have hR6 := hid (hR5.out.below hb hR5.out.lt)
          clear hb hQ5 hB5 hR5 hT5
          refine hK'.out _ _ (by exact hQ6.out) (fun hHeld => ?_)
          clear hK' K
          refine tkn 10 (.tuple #[.agg cs.toArray, .int .i64 0]) rfl (by kernel_rfl) (fun _ _ _ h => h) (yieldsIf_move _ rfl rfl rfl) hHeld ?_
          simp only [ly, Act.put]
          refine tkn 11 (.agg cs.toArray) rfl (by kernel_rfl) (fun _ _ _ h => h) (.inl ⟨by kernel_rfl, fun w _ => by go_simp⟩) hHeld ?_
          simp only [ly, Act.put]
          refine tkn 12 (.int .i64 0) rfl (by kernel_rfl) (fun _ _ _ h => h) (.inl ⟨by kernel_rfl, fun w _ => by go_simp⟩) hHeld ?_
          simp only [ly, Act.put]
          refine wpAnyH_ready (rs := [14]) (by kernel_rfl) (by simp) (AllReadyH.cons rfl (fun K hK => ?_) AllReadyH.nil)
          have hK' := hid hK
          clear hK
          rw [if_pos (by kernel_rfl)]
          simp only [ly1, ly2, ly3]
          refine wp_store_mid _ _ _ rfl gh 0 cs.toArray rfl rfl (by exact hC.out.there' hR6.out rfl) (by exact hC.out.size) (by exact hC.out.one) ?_
          generalize hXx : World.setCells _ _ _ _ = W7
          have hR7 := hid (Holds.over (cs := cs) hR6.out (by rw [hC.out.len]; rfl) hXx)
          have hQ7 := hid (holds_far hQ6.out (by have := hghx.out; omega) hXx)
          have hB7 := hid (below_put hB6.out (by have := hghx.out; have := hgw.out; omega) hXx)
          clear hXx hR6 hQ6 hB6
          refine hK'.out _ _ (by exact hQ7.out) (fun hHeld => ?_)
          clear hK' K
          refine tkn 15 (.int .i64 0) rfl (by kernel_rfl) (fun _ _ _ h => h) (yieldsIf_assign _ rfl rfl rfl) hHeld ?_
          simp only [ly, Act.put]
          refine wpAnyH_done (by kernel_rfl) ?_ _
          exact ⟨gh, gt, by simp only [puts, ly, Act.put], hR7.out, hB7.out⟩
      · skip
        have hK' := hid hK
        clear hK
        rw [if_pos (by kernel_rfl)]
        simp only [ly1, ly2, ly3]
        obtain ⟨gh, hgh⟩ : ∃ g, W2.heap.size = g := ⟨_, rfl⟩
        refine wp_run' (.pointer (some ⟨gh, 0, none⟩)) (W2.alloc (.cells z32 23)) (by rw [← hgh]; kernel_rfl) ?_
        have hb := (Below.refl W2.heap.size W2).alloc (Nat.le_refl _) (.cells z32 23)
        have hN : Holds (W2.alloc (.cells z32 23)) gh 23 z32.toList := by rw [← hgh]; exact Holds.new _ _ _
        have hghx := hid (show g < gh from by rw [← hgh]; exact hQ2.out.lt)
        generalize W2.alloc (.cells z32 23) = W3 at *
        have hQ3 := hid (hQ2.out.below hb hQ2.out.lt)
        have hB3 := hid (bup hb hB2.out)
        have hR3 := hid hN
        clear hb hQ2 hB2 hN hgh
        refine hK'.out _ _ (by exact hQ3.out) (fun hHeld => ?_)
        clear hK' K
        refine wpAnyH_ready (rs := [5]) (by kernel_rfl) (by simp) (AllReadyH.cons rfl (fun K hK => ?_) AllReadyH.nil)
        have hK' := hid hK
        clear hK
        rw [if_pos (by kernel_rfl)]
        simp only [ly1, ly2, ly3]
        go_simp
        refine (hu1.out _).mono ?_
        rintro e W4 ⟨rfl, hb⟩
        have hQ4 := hid (hQ3.out.below hb hQ3.out.lt)
        have hB4 := hid (bup hb hB3.out)
        have hR4 := hid (hR3.out.below hb hR3.out.lt)
        clear hb hQ3 hB3 hR3
        refine hK'.out _ _ (by exact hQ4.out) (fun hHeld => ?_)
        clear hK' K
        refine wpAnyH_ready (rs := [8]) (by kernel_rfl) (by simp) (AllReadyH.cons rfl (fun K hK => ?_) AllReadyH.nil)
        have hK' := hid hK
        clear hK
        rw [if_pos (by kernel_rfl)]
        simp only [ly1, ly2, ly3]
        obtain ⟨gt, hgt⟩ : ∃ g, W4.heap.size = g := ⟨_, rfl⟩
        refine wp_run' (.slice (some ⟨gt, 0, none⟩) 4 4) (W4.alloc (.cells #[.string tp, .string t4, .string t1, .string data] 9)) (by rw [← hgt]; kernel_rfl) ?_
        have hb := (Below.refl W4.heap.size W4).alloc (Nat.le_refl _) (.cells #[.string tp, .string t4, .string t1, .string data] 9)
        have hN := Texts.new W4 [tp, t4, t1, data] #[.string tp, .string t4, .string t1, .string data] rfl 4 rfl 9
        rw [hgt] at hN
        generalize W4.alloc (.cells #[.string tp, .string t4, .string t1, .string data] 9) = W5 at *
        have hQ5 := hid (hQ4.out.below hb hQ4.out.lt)
        have hB5 := hid (bup hb hB4.out)
        have hR5 := hid (hR4.out.below hb hR4.out.lt)
        have hT5 := hid hN
        clear hb hQ4 hB4 hR4 hN hgt
        refine hK'.out _ _ (by exact hQ5.out) (fun hHeld => ?_)
        clear hK' K
        refine wpAnyH_ready (rs := [9]) (by kernel_rfl) (by simp) (AllReadyH.cons rfl (fun K hK => ?_) AllReadyH.nil)
        have hK' := hid hK
        clear hK
        rw [if_pos (by kernel_rfl)]
        simp only [ly1, ly2, ly3]
        go_simp
        refine (hTg.out _ _ _ hT5.out).mono ?_
        rintro e W6 ⟨rfl, hb⟩
        have hQ6 := hid (hQ5.out.below hb hQ5.out.lt)
        have hB6 := hid (bup hb hB5.out)
        have hR6 := hid (hR5.out.below hb hR5.out.lt)
        clear hb hQ5 hB5 hR5 hT5
        refine hK'.out _ _ (by exact hQ6.out) (fun hHeld => ?_)
        clear hK' K
        refine tkn 10 (.tuple #[.agg cs.toArray, .int .i64 0]) rfl (by kernel_rfl) (fun _ _ _ h => h) (yieldsIf_move _ rfl rfl rfl) hHeld ?_
        simp only [ly, Act.put]
        refine tkn 11 (.agg cs.toArray) rfl (by kernel_rfl) (fun _ _ _ h => h) (.inl ⟨by kernel_rfl, fun w _ => by go_simp⟩) hHeld ?_
        simp only [ly, Act.put]
        refine tkn 12 (.int .i64 0) rfl (by kernel_rfl) (fun _ _ _ h => h) (.inl ⟨by kernel_rfl, fun w _ => by go_simp⟩) hHeld ?_
        simp only [ly, Act.put]
        refine wpAnyH_ready (rs := [14]) (by kernel_rfl) (by simp) (AllReadyH.cons rfl (fun K hK => ?_) AllReadyH.nil)
        have hK' := hid hK
        clear hK
        rw [if_pos (by kernel_rfl)]
        simp only [ly1, ly2, ly3]
        refine wp_store_mid _ _ _ rfl gh 0 cs.toArray rfl rfl (by exact hC.out.there' hR6.out rfl) (by exact hC.out.size) (by exact hC.out.one) ?_
        generalize hXx : World.setCells _ _ _ _ = W7
        have hR7 := hid (Holds.over (cs := cs) hR6.out (by rw [hC.out.len]; rfl) hXx)
        have hQ7 := hid (holds_far hQ6.out (by have := hghx.out; omega) hXx)
        have hB7 := hid (below_put hB6.out (by have := hghx.out; have := hgw.out; omega) hXx)
        clear hXx hR6 hQ6 hB6
        refine hK'.out _ _ (by exact hQ7.out) (fun hHeld => ?_)
        clear hK' K
        refine tkn 15 (.int .i64 0) rfl (by kernel_rfl) (fun _ _ _ h => h) (yieldsIf_assign _ rfl rfl rfl) hHeld ?_
        simp only [ly, Act.put]
        refine wpAnyH_done (by kernel_rfl) ?_ _
        exact ⟨gh, gt, by simp only [puts, ly, Act.put], hR7.out, hB7.out⟩
    · skip
      have hK' := hid hK
      clear hK
      rw [if_pos (by kernel_rfl)]
      simp only [ly1, ly2, ly3]
      obtain ⟨gh, hgh⟩ : ∃ g, W1.heap.size = g := ⟨_, rfl⟩
      refine wp_run' (.pointer (some ⟨gh, 0, none⟩)) (W1.alloc (.cells z32 23)) (by rw [← hgh]; kernel_rfl) ?_
      have hb := (Below.refl W1.heap.size W1).alloc (Nat.le_refl _) (.cells z32 23)
      have hN : Holds (W1.alloc (.cells z32 23)) gh 23 z32.toList := by rw [← hgh]; exact Holds.new _ _ _
      have hghx := hid (show g < gh from by rw [← hgh]; exact hQ1.out.lt)
      generalize W1.alloc (.cells z32 23) = W2 at *
      have hQ2 := hid (hQ1.out.below hb hQ1.out.lt)
      have hB2 := hid (bup hb hB1.out)
      have hR2 := hid hN
      clear hb hQ1 hB1 hN hgh
      refine hK'.out _ _ (by exact hQ2.out) (fun hHeld => ?_)
      clear hK' K
      refine wpAnyH_ready (rs := [2]) (by kernel_rfl) (by simp) (AllReadyH.cons rfl (fun K hK => ?_) AllReadyH.nil)
      have hK' := hid hK
      clear hK
      rw [if_pos (by kernel_rfl)]
      simp only [ly1, ly2, ly3]
      go_simp
      refine (hu4.out _).mono ?_
      rintro e W3 ⟨rfl, hb⟩
      have hQ3 := hid (hQ2.out.below hb hQ2.out.lt)
      have hB3 := hid (bup hb hB2.out)
      have hR3 := hid (hR2.out.below hb hR2.out.lt)
      clear hb hQ2 hB2 hR2
      refine hK'.out _ _ (by exact hQ3.out) (fun hHeld => ?_)
      clear hK' K
      refine wpAnyH_ready (rs := [5]) (by kernel_rfl) (by simp) (AllReadyH.cons rfl (fun K hK => ?_) AllReadyH.nil)
      have hK' := hid hK
      clear hK
      rw [if_pos (by kernel_rfl)]
      simp only [ly1, ly2, ly3]
      go_simp
      refine (hu1.out _).mono ?_
      rintro e W4 ⟨rfl, hb⟩
      have hQ4 := hid (hQ3.out.below hb hQ3.out.lt)
      have hB4 := hid (bup hb hB3.out)
      have hR4 := hid (hR3.out.below hb hR3.out.lt)
      clear hb hQ3 hB3 hR3
      refine hK'.out _ _ (by exact hQ4.out) (fun hHeld => ?_)
      clear hK' K
      refine wpAnyH_ready (rs := [8]) (by kernel_rfl) (by simp) (AllReadyH.cons rfl (fun K hK => ?_) AllReadyH.nil)
      have hK' := hid hK
      clear hK
      rw [if_pos (by kernel_rfl)]
      simp only [ly1, ly2, ly3]
      obtain ⟨gt, hgt⟩ : ∃ g, W4.heap.size = g := ⟨_, rfl⟩
      refine wp_run' (.slice (some ⟨gt, 0, none⟩) 4 4) (W4.alloc (.cells #[.string tp, .string t4, .string t1, .string data] 9)) (by rw [← hgt]; kernel_rfl) ?_
      have hb := (Below.refl W4.heap.size W4).alloc (Nat.le_refl _) (.cells #[.string tp, .string t4, .string t1, .string data] 9)
      have hN := Texts.new W4 [tp, t4, t1, data] #[.string tp, .string t4, .string t1, .string data] rfl 4 rfl 9
      rw [hgt] at hN
      generalize W4.alloc (.cells #[.string tp, .string t4, .string t1, .string data] 9) = W5 at *
      have hQ5 := hid (hQ4.out.below hb hQ4.out.lt)
      have hB5 := hid (bup hb hB4.out)
      have hR5 := hid (hR4.out.below hb hR4.out.lt)
      have hT5 := hid hN
      clear hb hQ4 hB4 hR4 hN hgt
      refine hK'.out _ _ (by exact hQ5.out) (fun hHeld => ?_)
      clear hK' K
      refine wpAnyH_ready (rs := [9]) (by kernel_rfl) (by simp) (AllReadyH.cons rfl (fun K hK => ?_) AllReadyH.nil)
      have hK' := hid hK
      clear hK
      rw [if_pos (by kernel_rfl)]
      simp only [ly1, ly2, ly3]
      go_simp
      refine (hTg.out _ _ _ hT5.out).mono ?_
      rintro e W6 ⟨rfl, hb⟩
      have hQ6 := hid (hQ5.out.below hb hQ5.out.lt)
      have hB6 := hid (bup hb hB5.out)
      have hR6 := hid (hR5.out.below hb hR5.out.lt)
      clear hb hQ5 hB5 hR5 hT5
      refine hK'.out _ _ (by exact hQ6.out) (fun hHeld => ?_)
      clear hK' K
      refine tkn 10 (.tuple #[.agg cs.toArray, .int .i64 0]) rfl (by kernel_rfl) (fun _ _ _ h => h) (yieldsIf_move _ rfl rfl rfl) hHeld ?_
      simp only [ly, Act.put]
      refine tkn 11 (.agg cs.toArray) rfl (by kernel_rfl) (fun _ _ _ h => h) (.inl ⟨by kernel_rfl, fun w _ => by go_simp⟩) hHeld ?_
      simp only [ly, Act.put]
      refine tkn 12 (.int .i64 0) rfl (by kernel_rfl) (fun _ _ _ h => h) (.inl ⟨by kernel_rfl, fun w _ => by go_simp⟩) hHeld ?_
      simp only [ly, Act.put]
      refine wpAnyH_ready (rs := [14]) (by kernel_rfl) (by simp) (AllReadyH.cons rfl (fun K hK => ?_) AllReadyH.nil)
      have hK' := hid hK
      clear hK
      rw [if_pos (by kernel_rfl)]
      simp only [ly1, ly2, ly3]
      refine wp_store_mid _ _ _ rfl gh 0 cs.toArray rfl rfl (by exact hC.out.there' hR6.out rfl) (by exact hC.out.size) (by exact hC.out.one) ?_
      generalize hXx : World.setCells _ _ _ _ = W7
      have hR7 := hid (Holds.over (cs := cs) hR6.out (by rw [hC.out.len]; rfl) hXx)
      have hQ7 := hid (holds_far hQ6.out (by have := hghx.out; omega) hXx)
      have hB7 := hid (below_put hB6.out (by have := hghx.out; have := hgw.out; omega) hXx)
      clear hXx hR6 hQ6 hB6
      refine hK'.out _ _ (by exact hQ7.out) (fun hHeld => ?_)
      clear hK' K
      refine tkn 15 (.int .i64 0) rfl (by kernel_rfl) (fun _ _ _ h => h) (yieldsIf_assign _ rfl rfl rfl) hHeld ?_
      simp only [ly, Act.put]
      refine wpAnyH_done (by kernel_rfl) ?_ _
      exact ⟨gh, gt, by simp only [puts, ly, Act.put], hR7.out, hB7.out⟩
  clear hQ0 hB0
  rintro a' W20 ⟨gh, gt, rfl, hr, hb⟩
  have hR20 := hid hr
  have hB20 := hid hb
  clear hr hb
  simp only [puts, ly, Act.put]
  go_wp2_with (first
    | ((with_reducible refine at_slot (some 22) ?_); refine wpList_load_mid rfl 23 (.tmp 7) rfl gh 0 rfl cs _ (by exact h_all hR20.out) Try.underlying23 rfl (by exact hC.out.size') ?_)
    | fail)
  refine (hT.out _).mono ?_
  rintro e W21 ⟨rfl, hb⟩
  have hR21 := hid (hR20.out.below hb hR20.out.lt)
  have hB21 := hid (bup hb hB20.out)
  clear hb hR20 hB20
  go_wp2_with fail
  go_ret
  exact ⟨rfl, hB21.out⟩

set_option maxRecDepth 100000 in
set_option maxHeartbeats 2000000 in
theorem rSeal_bad (p : ByteArray) (seq : Int) (r : Rec) (h : sealMay seq r = false) (w : World) :
    Calls Try.prog 10 #[.string p, .int .i64 seq, .agg (recV r).toArray] w fun e w' => e = .returned (.tuple #[.string ⟨#[]⟩, .int .i64 800]) ∧ Below w.heap.size w w' := by
  obtain ⟨k, data⟩ := r
  have hno : ¬ (0 ≤ seq ∧ seq ≤ 4294967295 ∧ 0 ≤ k ∧ k ≤ 255 ∧ data.size ≤ 1024) := fun hh => by rw [sealMay_iff.2 hh] at h; cases h
  clear h
  show Calls Try.prog 10 #[.string p, .int .i64 seq, .agg #[.int .i64 k, .string data]] w _
  obtain ⟨g, hg⟩ : ∃ g, w.heap.size = g := ⟨_, rfl⟩
  obtain ⟨W0, hW0⟩ : ∃ V, w.alloc (.cells #[.int .i64 k, .string data] 25) = V := ⟨_, rfl⟩
  have hQ0 := hid (show Holds W0 g 25 [.int .i64 k, .string data] from by rw [← hW0, ← hg]; exact Holds.new _ 25 #[.int .i64 k, .string data])
  have hB0 := hid (show Below w.heap.size w W0 from by rw [← hW0]; exact (Below.refl _ _).alloc (Nat.le_refl _) _)
  have hW0' := hid hW0
  have hgw := hid hg
  have c0 := hQ0.out.cK 0 _ rfl
  have c1 := hQ0.out.cK 1 _ rfl
  clear hW0 hg
  by_cases h0 : seq < 0
  · skip
    go_enter Try.func10, Try.ntmps10
    go_wp2_with (first
      | ((with_reducible refine at_slot (some 5) ?_); refine wpList_run rfl (.pointer (some ⟨g, 0, none⟩)) (w.alloc (.cells #[.int .i64 k, .string data] 25)) (by rw [← hgw.out]; kernel_rfl) ?_; rw [hW0'.out])
      | fail)
    go_ret2
    exact ⟨rfl, hB0.out⟩
  · skip
    by_cases h1 : 4294967295 < seq
    · skip
      go_enter Try.func10, Try.ntmps10
      go_wp2_with (first
        | ((with_reducible refine at_slot (some 5) ?_); refine wpList_run rfl (.pointer (some ⟨g, 0, none⟩)) (w.alloc (.cells #[.int .i64 k, .string data] 25)) (by rw [← hgw.out]; kernel_rfl) ?_; rw [hW0'.out])
        | fail)
      go_ret2
      exact ⟨rfl, hB0.out⟩
    · skip
      by_cases h2 : k < 0
      · skip
        go_enter Try.func10, Try.ntmps10
        go_wp2_with (first
          | ((with_reducible refine at_slot (some 5) ?_); refine wpList_run rfl (.pointer (some ⟨g, 0, none⟩)) (w.alloc (.cells #[.int .i64 k, .string data] 25)) (by rw [← hgw.out]; kernel_rfl) ?_; rw [hW0'.out])
          | fail)
        go_ret2
        exact ⟨rfl, hB0.out⟩
      · skip
        by_cases h3 : 255 < k
        · skip
          go_enter Try.func10, Try.ntmps10
          go_wp2_with (first
            | ((with_reducible refine at_slot (some 5) ?_); refine wpList_run rfl (.pointer (some ⟨g, 0, none⟩)) (w.alloc (.cells #[.int .i64 k, .string data] 25)) (by rw [← hgw.out]; kernel_rfl) ?_; rw [hW0'.out])
            | fail)
          go_ret2
          exact ⟨rfl, hB0.out⟩
        · skip
          have h4 : 1024 < (data.size : Int) := by omega
          go_enter Try.func10, Try.ntmps10
          go_wp2_with (first
            | ((with_reducible refine at_slot (some 5) ?_); refine wpList_run rfl (.pointer (some ⟨g, 0, none⟩)) (w.alloc (.cells #[.int .i64 k, .string data] 25)) (by rw [← hgw.out]; kernel_rfl) ?_; rw [hW0'.out])
            | fail)
          go_ret2
          exact ⟨rfl, hB0.out⟩

set_option maxRecDepth 100000 in
set_option maxHeartbeats 6000000 in
theorem rSeal_good (prev : List UInt8) (hp : prev.length = 32) (s kd : Nat) (data : ByteArray) (hs : s ≤ 4294967295) (hk : kd ≤ 255) (hd : data.size ≤ 1024) (w : World) :
    Calls Try.prog 10 #[.string (txt prev), .int .i64 (s : Int), .agg (recV ⟨(kd : Int), data⟩).toArray] w fun e w' => e = .returned (.tuple #[.string (recBytes prev s kd data), .int .i64 0]) ∧ Below w.heap.size w w' := by
  obtain ⟨i0, hi, hz0, hzz, hby⟩ := info_parts Try.infoU8
  have hu4 := hid (fun W => Be_any (s : Int) 4 4 rfl (by decide) s rfl (by omega) W)
  have hu1 := hid (fun W => Be_any (kd : Int) 1 1 rfl (by decide) kd rfl (by omega) W)
  have hu2 := hid (fun W => Be_any (data.size : Int) 2 2 rfl (by decide) data.size rfl (by omega) W)
  have hse := hid (fun W => rseal_any prev hp s kd data hs hk hd W)
  obtain ⟨X, hX⟩ : ∃ X, recRaw prev s kd data = X := ⟨_, rfl⟩
  have hXs : X.size = 41 + data.size := by rw [← hX, recRaw_size]
  obtain ⟨L, hL⟩ : ∃ L, (64 - X.size % 64) % 64 = L := ⟨_, rfl⟩
  have hLw : L = wholes (41 + data.size) * 64 - (41 + data.size) := by rw [← hL, hXs]; unfold wholes; omega
  have hfin := hid (show X ++ zeroS L = recBytes prev s kd data from by
    unfold recBytes
    rw [hX, hLw])
  have e1 : (X.size : Int).tmod 64 = ((X.size % 64 : Nat) : Int) := by rw [Int.tmod_eq_emod_of_nonneg (by omega)]; rfl
  obtain ⟨q, hq⟩ : ∃ q, X.size % 64 = q := ⟨_, rfl⟩
  rw [hq] at e1 hL
  have hq64 : q < 64 := by rw [← hq]; exact Nat.mod_lt _ (by decide)
  have e2 : IntKind.i64.wrap (q : Int) = (q : Int) := IntWalk.i64_in _ (by omega)
  obtain ⟨y, hy⟩ : ∃ y, 64 - q = y := ⟨_, rfl⟩
  rw [hy] at hL
  have e3 : IntKind.i64.wrap (64 - (q : Int)) = (y : Int) := by rw [IntWalk.i64_in _ (by omega)]; omega
  have e4 : (y : Int).tmod 64 = (L : Int) := by rw [Int.tmod_eq_emod_of_nonneg (by omega)]; omega
  have e5 : IntKind.i64.wrap (L : Int) = (L : Int) := IntWalk.i64_in _ (by omega)
  have hL64 : L < 64 := by rw [← hL]; exact Nat.mod_lt _ (by decide)
  have hzs := zeroS_size L
  have zc : X.size + (zeroS L).size ≤ 9223372036854775807 := by omega
  obtain ⟨zp, hzp⟩ : ∃ z, zeroS L = z := ⟨_, rfl⟩
  have hzp' := hid hzp
  have hzl := hid (show L = zp.size from by rw [← hzp, hzs])
  rw [hzp] at hfin zc
  have hY := hid (show (⟨#[65, 74]⟩ : ByteArray) ++ be 4 s ++ be 1 kd ++ be 2 data.size ++ data ++ txt (recHash prev s kd data) = X from hX)
  have b4 := be_size 4 s
  have b1 := be_size 1 kd
  have b2 := be_size 2 data.size
  have bs : (txt (recHash prev s kd data)).size = 32 := by rw [txt_size, recHash_len]
  show Calls Try.prog 10 #[.string (txt prev), .int .i64 (s : Int), .agg #[.int .i64 (kd : Int), .string data]] w _
  have hse := hid (fun W => show Calls Try.prog 29 #[.string (txt prev), .int .i64 (s : Int), .agg #[.int .i64 (kd : Int), .string data]] W fun e w' => e = .returned (.string (txt (recHash prev s kd data))) ∧ Below W.heap.size W w' from hse.out W)
  obtain ⟨k, hkk⟩ : ∃ k : Int, (kd : Int) = k := ⟨_, rfl⟩
  generalize txt (recHash prev s kd data) = ts at *
  generalize be 4 s = t4 at *
  generalize be 1 kd = t1 at *
  generalize be 2 data.size = t2 at *
  generalize txt prev = tp at *
  have hn1 : (0 : Int) ≤ (s : Int) := by omega
  have hn2 : (s : Int) ≤ 4294967295 := by omega
  have hn3 : (0 : Int) ≤ k := by omega
  have hn4 : k ≤ 255 := by omega
  have hn5 : (data.size : Int) ≤ 1024 := by omega
  rw [hkk] at hu1 hse ⊢
  have y1 : 2 + t4.size ≤ 9223372036854775807 := by omega
  have y2 : 2 + t4.size + t1.size ≤ 9223372036854775807 := by omega
  have y3 : 2 + t4.size + t1.size + t2.size ≤ 9223372036854775807 := by omega
  have y4 : 2 + t4.size + t1.size + t2.size + data.size ≤ 9223372036854775807 := by omega
  have y5 : 2 + t4.size + t1.size + t2.size + data.size + ts.size ≤ 9223372036854775807 := by omega
  clear hp hs hk hd hX hXs hLw hq hq64 hL hy hzs hzp b4 b1 b2 bs hkk
  obtain ⟨g, hg⟩ : ∃ g, w.heap.size = g := ⟨_, rfl⟩
  obtain ⟨W0, hW0⟩ : ∃ V, w.alloc (.cells #[.int .i64 k, .string data] 25) = V := ⟨_, rfl⟩
  have hQ0 := hid (show Holds W0 g 25 [.int .i64 k, .string data] from by rw [← hW0, ← hg]; exact Holds.new _ 25 #[.int .i64 k, .string data])
  have hB0 := hid (show Below w.heap.size w W0 from by rw [← hW0]; exact (Below.refl _ _).alloc (Nat.le_refl _) _)
  have hW0' := hid hW0
  have hgw := hid hg
  have c0 := hQ0.out.cK 0 _ rfl
  have c1 := hQ0.out.cK 1 _ rfl
  clear hW0 hg
  go_enter Try.func10, Try.ntmps10
  go_wp2_with (first
    | ((with_reducible refine at_slot (some 5) ?_); refine wpList_run rfl (.pointer (some ⟨g, 0, none⟩)) (w.alloc (.cells #[.int .i64 k, .string data] 25)) (by rw [← hgw.out]; kernel_rfl) ?_; rw [hW0'.out])
    | fail)
  clear c0 c1
  have hb : Below W0.heap.size W0 W0.drew := (Below.refl _ _).drew
  have hQ1 := hid (hQ0.out.below hb hQ0.out.lt)
  have hB1 := hid (bup hb hB0.out)
  clear hb hQ0 hB0
  refine wp_region_held_drew (S := fun V => Holds V g 25 [.int .i64 k, .string data]) (by kernel_rfl) (by exact hQ1.out) (fun hHeld => ?_)
  generalize W0.drew = W1 at *
  refine tkn 0 (.int .i64 (s : Int)) rfl (by kernel_rfl) (fun _ _ _ h => h) (yieldsIf_move _ rfl rfl rfl) hHeld ?_
  simp only [ly, Act.put]
  refine tkn 3 (.pointer (some ⟨g, 0, none⟩)) rfl (by kernel_rfl) (fun _ _ _ h => h) (.inl ⟨by kernel_rfl, fun w _ => by go_simp⟩) hHeld ?_
  simp only [ly, Act.put]
  refine tkn 4 (.int .i64 k) rfl (by kernel_rfl) (fun _ _ _ h => h) (.inl ⟨by kernel_rfl, fun V hS => by have c0 := hS.cK 0 _ rfl; go_simp⟩) hHeld ?_
  simp only [ly, Act.put]
  refine tkn 7 (.pointer (some ⟨g, 1, none⟩)) rfl (by kernel_rfl) (fun _ _ _ h => h) (.inl ⟨by kernel_rfl, fun w _ => by go_simp⟩) hHeld ?_
  simp only [ly, Act.put]
  refine tkn 8 (.string data) rfl (by kernel_rfl) (fun _ _ _ h => h) (.inl ⟨by kernel_rfl, fun V hS => by have c1 := hS.cK 1 _ rfl; go_simp⟩) hHeld ?_
  simp only [ly, Act.put]
  refine tkn 9 (.int .i64 (data.size : Int)) rfl (by kernel_rfl) (fun _ _ _ h => h) (.inl ⟨by kernel_rfl, fun w _ => by go_simp⟩) hHeld ?_
  simp only [ly, Act.put]
  refine tkn 12 (.pointer (some ⟨g, 1, none⟩)) rfl (by kernel_rfl) (fun _ _ _ h => h) (.inl ⟨by kernel_rfl, fun w _ => by go_simp⟩) hHeld ?_
  simp only [ly, Act.put]
  refine tkn 13 (.string data) rfl (by kernel_rfl) (fun _ _ _ h => h) (.inl ⟨by kernel_rfl, fun V hS => by have c1 := hS.cK 1 _ rfl; go_simp⟩) hHeld ?_
  simp only [ly, Act.put]
  refine tkn 15 (.string tp) rfl (by kernel_rfl) (fun _ _ _ h => h) (yieldsIf_move _ rfl rfl rfl) hHeld ?_
  simp only [ly, Act.put]
  refine tkn 16 (.int .i64 (s : Int)) rfl (by kernel_rfl) (fun _ _ _ h => h) (yieldsIf_move _ rfl rfl rfl) hHeld ?_
  simp only [ly, Act.put]
  refine tkn 17 (.agg #[.int .i64 k, .string data]) rfl (by kernel_rfl) (fun _ _ _ h => h) (yieldsIf_load_mid (by kernel_rfl) _ _ rfl _ _ rfl _ _ (fun V hS => h_all hS) Try.underlying25 rfl (by exact recSizeL ⟨k, data⟩)) hHeld ?_
  simp only [ly, Act.put]
  refine wpAnyH_ready (rs := [1]) (by kernel_rfl) (by simp) (AllReadyH.cons rfl (fun K hK => ?_) AllReadyH.nil)
  have hK' := hid hK
  clear hK
  rw [if_pos (by kernel_rfl)]
  simp only [ly1, ly2, ly3]
  go_simp
  refine (hu4.out _).mono ?_
  rintro e W2 ⟨rfl, hb⟩
  have hQ2 := hid (hQ1.out.below hb hQ1.out.lt)
  have hB2 := hid (bup hb hB1.out)
  clear hb hQ1 hB1
  refine hK'.out _ _ (by exact hQ2.out) (fun hHeld => ?_)
  clear hK' K
  refine tkn 2 (.string (⟨#[65, 74]⟩ ++ t4)) rfl (by kernel_rfl) (fun _ _ _ h => h) (.inl ⟨by kernel_rfl, fun w _ => by go_simp⟩) hHeld ?_
  simp only [ly, Act.put]
  refine wpAnyH_ready (rs := [5]) (by kernel_rfl) (by simp) (AllReadyH.cons rfl (fun K hK => ?_) AllReadyH.nil)
  have hK' := hid hK
  clear hK
  rw [if_pos (by kernel_rfl)]
  simp only [ly1, ly2, ly3]
  go_simp
  refine (hu1.out _).mono ?_
  rintro e W3 ⟨rfl, hb⟩
  have hQ3 := hid (hQ2.out.below hb hQ2.out.lt)
  have hB3 := hid (bup hb hB2.out)
  clear hb hQ2 hB2
  refine hK'.out _ _ (by exact hQ3.out) (fun hHeld => ?_)
  clear hK' K
  refine tkn 6 (.string (⟨#[65, 74]⟩ ++ t4 ++ t1)) rfl (by kernel_rfl) (fun _ _ _ h => h) (.inl ⟨by kernel_rfl, fun w _ => by go_simp⟩) hHeld ?_
  simp only [ly, Act.put]
  refine wpAnyH_ready (rs := [10]) (by kernel_rfl) (by simp) (AllReadyH.cons rfl (fun K hK => ?_) AllReadyH.nil)
  have hK' := hid hK
  clear hK
  rw [if_pos (by kernel_rfl)]
  simp only [ly1, ly2, ly3]
  go_simp
  refine (hu2.out _).mono ?_
  rintro e W4 ⟨rfl, hb⟩
  have hQ4 := hid (hQ3.out.below hb hQ3.out.lt)
  have hB4 := hid (bup hb hB3.out)
  clear hb hQ3 hB3
  refine hK'.out _ _ (by exact hQ4.out) (fun hHeld => ?_)
  clear hK' K
  refine tkn 11 (.string (⟨#[65, 74]⟩ ++ t4 ++ t1 ++ t2)) rfl (by kernel_rfl) (fun _ _ _ h => h) (.inl ⟨by kernel_rfl, fun w _ => by go_simp⟩) hHeld ?_
  simp only [ly, Act.put]
  refine tkn 14 (.string (⟨#[65, 74]⟩ ++ t4 ++ t1 ++ t2 ++ data)) rfl (by kernel_rfl) (fun _ _ _ h => h) (.inl ⟨by kernel_rfl, fun w _ => by go_simp⟩) hHeld ?_
  simp only [ly, Act.put]
  refine wpAnyH_ready (rs := [18]) (by kernel_rfl) (by simp) (AllReadyH.cons rfl (fun K hK => ?_) AllReadyH.nil)
  have hK' := hid hK
  clear hK
  rw [if_pos (by kernel_rfl)]
  simp only [ly1, ly2, ly3]
  go_simp
  refine (hse.out _).mono ?_
  rintro e W5 ⟨rfl, hb⟩
  have hQ5 := hid (hQ4.out.below hb hQ4.out.lt)
  have hB5 := hid (bup hb hB4.out)
  clear hb hQ4 hB4
  refine hK'.out _ _ (by exact hQ5.out) (fun hHeld => ?_)
  clear hK' K
  refine tkn 19 (.string (⟨#[65, 74]⟩ ++ t4 ++ t1 ++ t2 ++ data ++ ts)) rfl (by kernel_rfl) (fun _ _ _ h => h) (.inl ⟨by kernel_rfl, fun w _ => by go_simp⟩) hHeld ?_
  simp only [ly, Act.put]
  refine tkn 20 (.string (⟨#[65, 74]⟩ ++ t4 ++ t1 ++ t2 ++ data ++ ts)) rfl (by kernel_rfl) (fun _ _ _ h => h) (yieldsIf_assign _ rfl rfl rfl) hHeld ?_
  simp only [ly, Act.put]
  refine wpAnyH_done (by kernel_rfl) ?_ _
  rw [hY.out]
  go_wp2_with (first
    | ((with_reducible refine at_slot (some 57) ?_); refine wpList_make_zeros rfl _ _ 52 rfl 5 i0 Try.underlying52 hi hz0 hzz hby _ L rfl rfl rfl (by omega) zp hzp'.out ?_; intro W40 hRz hb; have hcv := run_convert_row (P := Try.prog) (w := W40) (e := 5) 52 9 Try.underlying52 Try.underlying5 Try.underlying9 hzl.out hRz; have hcv' := hid hcv; clear hcv hRz; have hB40 := hid (bup hb hB5.out); clear hb)
    | ((with_reducible refine at_slot (some 58) ?_); refine wpList_convert rfl 52 9 (.tmp 57) rfl _ (.string zp) _ rfl (by exact hcv'.out) ?_)
    | fail)
  go_ret2
  exact ⟨congrArg (fun s => Ending.returned (.tuple #[.string s, .int .i64 0])) hfin.out, hB40.out⟩

theorem rSeal_any (prev : List UInt8) (hp : prev.length = 32) (seq : Int) (r : Rec) (w : World) :
    Calls Try.prog 10 #[.string (txt prev), .int .i64 seq, .agg (recV r).toArray] w fun e w' => e = .returned (.tuple #[.string (sealAns prev seq r).1, .int .i64 (sealAns prev seq r).2]) ∧ Below w.heap.size w w' := by
  cases hm : sealMay seq r with
  | false =>
    unfold sealAns
    rw [hm]
    exact rSeal_bad _ seq r hm w
  | true =>
    obtain ⟨h1, h2, h3, h4, h5⟩ := sealMay_iff.1 hm
    unfold sealAns
    rw [hm]
    obtain ⟨s, rfl⟩ : ∃ s : Nat, seq = (s : Int) := ⟨seq.toNat, by omega⟩
    obtain ⟨k, data⟩ := r
    obtain ⟨kd, rfl⟩ : ∃ n : Nat, k = (n : Int) := ⟨k.toNat, by have : 0 ≤ k := h3; omega⟩
    exact rSeal_good prev hp s kd data (by omega) (by have : (kd : Int) ≤ 255 := h4; omega) h5 w

end Go.Proofs.Ytlicmbmhcpfocaa
namespace Go.Proofs.Ytlicmbmhcpfocaa
open Go.RowKit
open Go.Lib (strCells strCells_length strCells_oneCell)
attribute [local irreducible] Sha.compress Sha.blocks Sha.sha Sha.pad

set_option maxRecDepth 100000 in
set_option maxHeartbeats 4000000 in
theorem JournalSeals_law (prev : List UInt8) (hp : prev.length = 32) (seq : Int) (r : Rec) {w : World} :
    Calls Try.prog 3 #[hv prev, .int .i64 seq, .agg (recV r).toArray] w fun e w' => e = .returned (.bool true) ∧ Below w.heap.size w w' := by
  unfold hv
  have hC := hid (hash_cells prev hp)
  have hS := hid (fun W => seal_any prev hp seq r W)
  have hR := hid (fun W => rSeal_any prev hp seq r W)
  have hT := hid (fun W => show Calls Try.prog 11 #[.agg (byteCells prev).toArray] W fun e w' => e = .returned (.string (txt prev)) ∧ Below W.heap.size W w' from tT_any _ hp W)
  obtain ⟨⟨a, n⟩, ha⟩ : ∃ x, sealAns prev seq r = x := ⟨_, rfl⟩
  rw [ha] at hS hR
  dsimp only at hS hR
  clear ha hp
  generalize byteCells prev = cp at *
  generalize txt prev = tp at *
  obtain ⟨g, hg⟩ : ∃ g, w.heap.size = g := ⟨_, rfl⟩
  obtain ⟨W0, hW0⟩ : ∃ V, (w.alloc (.cells cp.toArray 23)).alloc (.cells (recV r).toArray 25) = V := ⟨_, rfl⟩
  have hsz : (w.alloc (.cells cp.toArray 23)).heap.size = g + 1 := by rw [← hg]; simp
  have hP0 := hid (show Holds W0 g 23 cp from by rw [← hW0, ← hg]; exact (Holds.new w 23 cp.toArray).alloc _)
  have hQ0 := hid (show Holds W0 (g + 1) 25 (recV r) from by rw [← hW0, ← hsz]; exact Holds.new _ 25 (recV r).toArray)
  have hB0 := hid (show Below w.heap.size w W0 from by rw [← hW0]; exact ((Below.refl _ _).alloc (Nat.le_refl _) _).alloc (by simp) _)
  have hW0' := hid hW0
  have hsz' := hid hsz
  have hgw := hid hg
  clear hW0 hg hsz
  go_enter Try.func3, Try.ntmps3
  go_wp2_with (first
    | ((with_reducible refine at_slot (some 3) ?_); refine wpList_run rfl (.pointer (some ⟨g, 0, none⟩)) (w.alloc (.cells cp.toArray 23)) (by rw [← hgw.out]; kernel_rfl) ?_)
    | ((with_reducible refine at_slot (some 5) ?_); refine wpList_run rfl (.pointer (some ⟨g + 1, 0, none⟩)) ((w.alloc (.cells cp.toArray 23)).alloc (.cells (recV r).toArray 25)) (by rw [← hsz'.out]; kernel_rfl) ?_; rw [hW0'.out])
    | ((with_reducible refine at_slot (some 12) ?_); refine wpList_load_mid rfl 23 (.tmp 3) rfl g 0 rfl cp _ (by exact h_all hP0.out) Try.underlying23 rfl (by exact hC.out.size') ?_)
    | ((with_reducible refine at_slot (some 14) ?_); refine wpList_load_mid rfl 25 (.tmp 5) rfl (g + 1) 0 rfl (recV r) _ (by exact h_all hQ0.out) Try.underlying25 rfl (by exact recSizeL r) ?_)
    | fail)
  refine (hS.out _).mono ?_
  rintro e W1 ⟨rfl, hb⟩
  have hP1 := hid (hP0.out.below hb hP0.out.lt)
  have hQ1 := hid (hQ0.out.below hb hQ0.out.lt)
  have hB1 := hid (bup hb hB0.out)
  clear hb hP0 hQ0 hB0
  go_wp2_with fail
  have hb : Below W1.heap.size W1 W1.drew := (Below.refl _ _).drew
  have hP2 := hid (hP1.out.below hb hP1.out.lt)
  have hQ2 := hid (hQ1.out.below hb hQ1.out.lt)
  have hB2 := hid (bup hb hB1.out)
  clear hb hP1 hQ1 hB1
  refine wp_region_held_drew (S := fun V => Holds V g 23 cp ∧ Holds V (g + 1) 25 (recV r)) (by kernel_rfl) (by exact ⟨hP2.out, hQ2.out⟩) (fun hHeld => ?_)
  generalize W1.drew = W2 at *
  refine tkn 0 (.agg cp.toArray) rfl (by kernel_rfl) (fun _ _ _ h => h) (yieldsIf_load_mid (by kernel_rfl) _ _ rfl _ _ rfl _ _ (fun V hS => h_all hS.1) Try.underlying23 rfl (by exact hC.out.size')) hHeld ?_
  simp only [ly, Act.put]
  refine tkn 2 (.int .i64 seq) rfl (by kernel_rfl) (fun _ _ _ h => h) (yieldsIf_move _ rfl rfl rfl) hHeld ?_
  simp only [ly, Act.put]
  refine tkn 3 (.agg (recV r).toArray) rfl (by kernel_rfl) (fun _ _ _ h => h) (yieldsIf_load_mid (by kernel_rfl) _ _ rfl _ _ rfl _ _ (fun V hS => h_all hS.2) Try.underlying25 rfl (by exact recSizeL r)) hHeld ?_
  simp only [ly, Act.put]
  refine wpAnyH_ready (rs := [1]) (by kernel_rfl) (by simp) (AllReadyH.cons rfl (fun K hK => ?_) AllReadyH.nil)
  have hK' := hid hK
  clear hK
  rw [if_pos (by kernel_rfl)]
  simp only [ly1, ly2, ly3]
  go_simp
  refine (hT.out _).mono ?_
  rintro e W3 ⟨rfl, hb⟩
  have hP3 := hid (hP2.out.below hb hP2.out.lt)
  have hQ3 := hid (hQ2.out.below hb hQ2.out.lt)
  have hB3 := hid (bup hb hB2.out)
  clear hb hP2 hQ2 hB2
  refine hK'.out _ _ (by exact ⟨hP3.out, hQ3.out⟩) (fun hHeld => ?_)
  clear hK' K
  refine wpAnyH_ready (rs := [4]) (by kernel_rfl) (by simp) (AllReadyH.cons rfl (fun K hK => ?_) AllReadyH.nil)
  have hK' := hid hK
  clear hK
  rw [if_pos (by kernel_rfl)]
  simp only [ly1, ly2, ly3]
  go_simp
  refine (hR.out _).mono ?_
  rintro e W4 ⟨rfl, hb⟩
  have hP4 := hid (hP3.out.below hb hP3.out.lt)
  have hQ4 := hid (hQ3.out.below hb hQ3.out.lt)
  have hB4 := hid (bup hb hB3.out)
  clear hb hP3 hQ3 hB3
  refine hK'.out _ _ (by exact ⟨hP4.out, hQ4.out⟩) (fun hHeld => ?_)
  clear hK' K
  refine tkn 5 (.tuple #[.string a, .int .i64 n]) rfl (by kernel_rfl) (fun _ _ _ h => h) (yieldsIf_move _ rfl rfl rfl) hHeld ?_
  simp only [ly, Act.put]
  refine tkn 6 (.string a) rfl (by kernel_rfl) (fun _ _ _ h => h) (.inl ⟨by kernel_rfl, fun w _ => by go_simp⟩) hHeld ?_
  simp only [ly, Act.put]
  refine tkn 7 (.int .i64 n) rfl (by kernel_rfl) (fun _ _ _ h => h) (.inl ⟨by kernel_rfl, fun w _ => by go_simp⟩) hHeld ?_
  simp only [ly, Act.put]
  refine tkn 8 (.string a) rfl (by kernel_rfl) (fun _ _ _ h => h) (yieldsIf_assign _ rfl rfl rfl) hHeld ?_
  simp only [ly, Act.put]
  refine tkn 9 (.int .i64 n) rfl (by kernel_rfl) (fun _ _ _ h => h) (yieldsIf_assign _ rfl rfl rfl) hHeld ?_
  simp only [ly, Act.put]
  refine wpAnyH_done (by kernel_rfl) ?_ _
  go_wp2_with (first
    | (go_at_call 12; refine (errNum_any _ _).mono ?_; rintro e w' ⟨rfl, rfl⟩)
    | (go_at_call 13; refine (awake8_any _).mono ?_; rintro e W50 ⟨rfl, hb⟩; have hB50 := hid (bup hb hB4.out); clear hb)
    | fail)
  go_ret
  exact ⟨rfl, hB50.out⟩

end Go.Proofs.Ytlicmbmhcpfocaa
namespace Go.Proofs.Ytlicmbmhcpfocaa
open Go.RowKit
open Go.Lib (strCells strCells_length strCells_oneCell)
attribute [local irreducible] Sha.compress Sha.blocks Sha.sha Sha.pad

theorem hash_put {cs : List Value} (hC : HashCells cs) {W V : World} {q : Nat} (hq : W.heap.size = q) (e : (W.alloc (.cells z32 23)).setCells q 0 cs = V) : Holds V q 23 cs ∧ Below W.heap.size W V := by
  subst hq
  have hb : Below W.heap.size W (W.alloc (.cells z32 23)) := (Below.refl _ _).alloc (Nat.le_refl _) _
  exact ⟨Holds.over (Holds.new W 23 z32) (by rw [hC.len]; rfl) e, below_put hb (Nat.le_refl _) e⟩

set_option maxRecDepth 100000 in
set_option maxHeartbeats 8000000 in
theorem JournalBytes_law (prev : List UInt8) (hp : prev.length = 32) (sq kn : Int) (data : ByteArray) (_ : data.size ≤ 140737488351232) {w : World} :
    Calls Try.prog 5 #[hv prev, .int .i64 sq, .int .i64 kn, .string data] w fun e w' => e = .returned (.bool true) ∧ Below w.heap.size w w' := by
  unfold hv
  obtain ⟨kd, hk, ek, -⟩ := and_mask kn 8 (by decide) 255 rfl
  obtain ⟨s, hs, es, -⟩ := and_mask sq 32 (by decide) 4294967295 rfl
  have hk : kd < 256 := hk
  have hs : s < 4294967296 := hs
  obtain ⟨D, hD⟩ : ∃ x, min data.size 1024 = x := ⟨_, rfl⟩
  have eD : min (data.size : Int) 1024 = (D : Int) := by omega
  have eD2 : (D : Int) ≤ (data.size : Int) := by omega
  have eD3 : (0 : Int) ≤ (D : Int) := by omega
  obtain ⟨d, hd⟩ : ∃ x, data.extract 0 D = x := ⟨_, rfl⟩
  have hds : d.size = D := by rw [← hd, ByteArray.size_extract]; omega
  have hd1024 : d.size ≤ 1024 := by omega
  have hC0 := hid (hash_cells prev hp)
  have hC := hid (hash_cells (recHash prev s kd d) (recHash_len _ _ _ _))
  have hSe := hid (fun W => show Calls Try.prog 9 #[.agg (byteCells prev).toArray, .int .i64 (s : Int), .agg #[.int .i64 (kd : Int), .string d]] W fun e w' => e = .returned (.tuple #[.string (recBytes prev s kd d), .int .i64 0]) ∧ Below W.heap.size W w' from seal_good prev hp s kd d (by omega) (by omega) hd1024 W)
  have hT0 := hid (fun W => show Calls Try.prog 11 #[.agg (byteCells prev).toArray] W fun e w' => e = .returned (.string (txt prev)) ∧ Below W.heap.size W w' from tT_any _ hp W)
  have hT := hid (fun W => show Calls Try.prog 11 #[.agg (byteCells (recHash prev s kd d)).toArray] W fun e w' => e = .returned (.string (txt (recHash prev s kd d))) ∧ Below W.heap.size W w' from tT_any _ (recHash_len _ _ _ _) W)
  have hTg := hid (fun (W : World) (A : Option Addr) (m : Nat) (h : Texts W W.heap.size A 4 [txt prev, be 4 s, be 1 kd, d]) => show Calls Try.prog 20 #[.int .i64 4, .slice A 4 m] W fun e w' => e = .returned (.tuple #[.agg (byteCells (recHash prev s kd d)).toArray, .int .i64 0]) ∧ Below W.heap.size W w' from rTag4_any h (by rw [txt_size, be_size, be_size, hp]; omega))
  have hu4 := hid (fun W => Be_any (s : Int) 4 4 rfl (by decide) s rfl (by omega) W)
  have hu1 := hid (fun W => Be_any (kd : Int) 1 1 rfl (by decide) kd rfl (by omega) W)
  have hu2 := hid (fun W => Be_any (d.size : Int) 2 2 rfl (by decide) d.size rfl (by omega) W)
  obtain ⟨X, hX⟩ : ∃ X, recRaw prev s kd d = X := ⟨_, rfl⟩
  have hXs : X.size = 41 + d.size := by rw [← hX, recRaw_size]
  obtain ⟨SB, hSB⟩ : ∃ x, recBytes prev s kd d = x := ⟨_, rfl⟩
  obtain ⟨p, hpd⟩ : ∃ p, SB = X ++ zeroS p := ⟨_, by rw [← hSB, ← hX]; rfl⟩
  have hSz : SB.size = wholes (41 + d.size) * 64 := by rw [← hSB, recBytes_size]
  have hw1 := wholes_ge (41 + d.size)
  have hw2 := wholes_lt (41 + d.size)
  have hY := hid (show (⟨#[65, 74]⟩ : ByteArray) ++ be 4 s ++ be 1 kd ++ be 2 d.size ++ d ++ txt (recHash prev s kd d) = X from hX)
  have f1 : (SB.size : Int).tmod 64 = 0 := by rw [Int.tmod_eq_emod_of_nonneg (by omega)]; omega
  have f2 : ¬ (SB.size : Int) < (X.size : Int) := by omega
  obtain ⟨Y, hYd⟩ : ∃ y, X.size + 64 = y := ⟨_, rfl⟩
  have f3 : IntKind.i64.wrap ((X.size : Int) + 64) = (Y : Int) := by rw [IntWalk.i64_in _ (by omega)]; omega
  have f4 : ¬ (Y : Int) ≤ (SB.size : Int) := by omega
  have f5 : SB.extract 0 X.size = X := bytes_ext (by
    rw [ext_cut, hpd, data_append, List.drop_zero, Nat.sub_zero, List.take_append_of_le_length (by rw [data_length]; exact Nat.le_refl _), List.take_of_length_le (by rw [data_length]; exact Nat.le_refl _)])
  have f6 : (X.size : Int) ≤ (SB.size : Int) := by omega
  have f7 : X.size ≤ SB.size := by omega
  have hzero := hid (show ∀ i, X.size ≤ i → SB.data.toList.getD i 0 = 0 from fun i hi => by
    rw [hpd, data_append, List.getD_eq_getElem?_getD, List.getElem?_append_right (by rw [data_length]; exact hi)]
    unfold zeroS
    rw [mk_data, List.getElem?_replicate]
    split <;> rfl)
  have b4 := be_size 4 s
  have b1 := be_size 1 kd
  have b2 := be_size 2 d.size
  have bs : (txt (recHash prev s kd d)).size = 32 := by rw [txt_size, recHash_len]
  rw [hSB] at hSe
  generalize recHash prev s kd d = rh at *
  generalize byteCells rh = cs at *
  generalize txt rh = ts at *
  generalize be 4 s = t4 at *
  generalize be 1 kd = t1 at *
  generalize be 2 d.size = t2 at *
  generalize byteCells prev = cp at *
  generalize txt prev = tp at *
  have y1 : 2 + t4.size ≤ 9223372036854775807 := by omega
  have y2 : 2 + t4.size + t1.size ≤ 9223372036854775807 := by omega
  have y3 : 2 + t4.size + t1.size + t2.size ≤ 9223372036854775807 := by omega
  have y4 : 2 + t4.size + t1.size + t2.size + d.size ≤ 9223372036854775807 := by omega
  have y5 : 2 + t4.size + t1.size + t2.size + d.size + ts.size ≤ 9223372036854775807 := by omega
  obtain ⟨g, hg⟩ : ∃ g, w.heap.size = g := ⟨_, rfl⟩
  obtain ⟨W0, hW0⟩ : ∃ V, w.alloc (.cells cp.toArray 23) = V := ⟨_, rfl⟩
  have hP0 := hid (show Holds W0 g 23 cp from by rw [← hW0, ← hg]; exact Holds.new w 23 cp.toArray)
  have hB0 := hid (show Below w.heap.size w W0 from by rw [← hW0]; exact (Below.refl _ _).alloc (Nat.le_refl _) _)
  have hW0' := hid hW0
  have hgw := hid hg
  have hpb := hid (show SB.size ≤ 2000 from by omega)
  clear hW0 hg hp hk hs hds hd1024 hX hXs hSB hpd hSz hw1 hw2 hYd b4 b1 b2 bs hD
  go_enter Try.func5, Try.ntmps5
  go_wp2_with (first
    | ((with_reducible refine at_slot (some 4) ?_); refine wpList_run rfl (.pointer (some ⟨g, 0, none⟩)) (w.alloc (.cells cp.toArray 23)) (by rw [← hgw.out]; kernel_rfl) ?_; rw [hW0'.out])
    | (go_at_call 13; refine (awake8_any _).mono ?_; rintro e W1 ⟨rfl, hb⟩; have hB1 := hid (bup hb hB0.out); have hP1 := hid (hP0.out.below hb hP0.out.lt); clear hb)
    | ((with_reducible refine at_slot (some 30) ?_); refine wpList_load_mid rfl 23 (.tmp 4) rfl g 0 rfl cp _ (by exact h_all hP1.out) Try.underlying23 rfl (by exact hC0.out.size') ?_)
    | fail)
  refine (hSe.out _).mono ?_
  rintro e W2 ⟨rfl, hb⟩
  have hP2 := hid (hP1.out.below hb hP1.out.lt)
  have hB2 := hid (bup hb hB1.out)
  clear hb hP1 hB1
  go_wp2_with (first
    | ((with_reducible refine at_slot (some 39) ?_); refine wpList_load_mid rfl 23 (.tmp 4) rfl g 0 rfl cp _ (by exact h_all hP2.out) Try.underlying23 rfl (by exact hC0.out.size') ?_)
    | fail)
  refine (hT0.out _).mono ?_
  rintro e W3 ⟨rfl, hb⟩
  have hP3 := hid (hP2.out.below hb hP2.out.lt)
  have hB3 := hid (bup hb hB2.out)
  clear hb hP2 hB2
  go_wp2_with fail
  refine (hu4.out _).mono ?_
  rintro e W4 ⟨rfl, hb⟩
  have hP4 := hid (hP3.out.below hb hP3.out.lt)
  have hB4 := hid (bup hb hB3.out)
  clear hb hP3 hB3
  go_wp2_with fail
  refine (hu1.out _).mono ?_
  rintro e W5 ⟨rfl, hb⟩
  have hP5 := hid (hP4.out.below hb hP4.out.lt)
  have hB5 := hid (bup hb hB4.out)
  clear hb hP4 hB4
  go_wp2_with fail
  have hN := Texts.new W5 [tp, t4, t1, d] #[.string tp, .string t4, .string t1, .string d] rfl 4 rfl 9
  have hb0 : Below W5.heap.size W5 (W5.alloc (.cells #[.string tp, .string t4, .string t1, .string d] 9)) := (Below.refl _ _).alloc (Nat.le_refl _) _
  refine (hTg.out _ _ _ hN).mono ?_
  rintro e W6 ⟨rfl, hb1⟩
  have hb : Below W5.heap.size W5 W6 := hb0.trans (hb1.mono hb0.size)
  clear hb0 hb1 hN
  have hP6 := hid (hP5.out.below hb hP5.out.lt)
  have hB6 := hid (bup hb hB5.out)
  clear hb hP5 hB5
  obtain ⟨gh, hgh⟩ : ∃ g, W6.heap.size = g := ⟨_, rfl⟩
  have hgh' := hid hgh
  have hghx := hid (show g < gh from by rw [← hgh]; exact hP6.out.lt)
  clear hgh
  go_wp2_with (first
    | ((with_reducible refine at_slot (some 14) ?_); refine wpList_run rfl (.pointer (some ⟨gh, 0, none⟩)) (W6.alloc (.cells z32 23)) (by rw [← hgh'.out]; kernel_rfl) ?_)
    | ((with_reducible refine at_slot none ?_); refine wpList_store_mid rfl 23 (.tmp 14) (.tmp 48) rfl gh 0 cs.toArray rfl rfl (by have h := hC.out.there W6; rw [hgh'.out] at h; exact h) (by exact hC.out.size) (by exact hC.out.one) ?_; generalize hW : World.setCells _ _ _ _ = W7; have hh := hash_put hC.out hgh'.out hW; have hR7 := hid hh.1; have hB7 := hid (bup hh.2 hB6.out); clear hW hh)
    | fail)
  have hb : Below W7.heap.size W7 W7.drew := (Below.refl _ _).drew
  have hR8 := hid (hR7.out.below hb hR7.out.lt)
  have hB8 := hid (bup hb hB7.out)
  clear hb hR7 hB7
  refine wp_region_held_drew (S := fun V => Holds V gh 23 cs) (by kernel_rfl) (by exact hR8.out) (fun hHeld => ?_)
  generalize W7.drew = W8 at *
  refine tkn 0 (.int .i64 (s : Int)) rfl (by kernel_rfl) (fun _ _ _ h => h) (yieldsIf_move _ rfl rfl rfl) hHeld ?_
  simp only [ly, Act.put]
  refine tkn 3 (.int .i64 (kd : Int)) rfl (by kernel_rfl) (fun _ _ _ h => h) (yieldsIf_move _ rfl rfl rfl) hHeld ?_
  simp only [ly, Act.put]
  refine tkn 6 (.string d) rfl (by kernel_rfl) (fun _ _ _ h => h) (yieldsIf_move _ rfl rfl rfl) hHeld ?_
  simp only [ly, Act.put]
  refine tkn 7 (.int .i64 (d.size : Int)) rfl (by kernel_rfl) (fun _ _ _ h => h) (.inl ⟨by kernel_rfl, fun w _ => by go_simp⟩) hHeld ?_
  simp only [ly, Act.put]
  refine tkn 10 (.string d) rfl (by kernel_rfl) (fun _ _ _ h => h) (yieldsIf_move _ rfl rfl rfl) hHeld ?_
  simp only [ly, Act.put]
  refine tkn 12 (.agg cs.toArray) rfl (by kernel_rfl) (fun _ _ _ h => h) (yieldsIf_load_mid (by kernel_rfl) _ _ rfl _ _ rfl _ _ (fun V hS => h_all hS) Try.underlying23 rfl (by exact hC.out.size')) hHeld ?_
  simp only [ly, Act.put]
  refine wpAnyH_ready (rs := [1]) (by kernel_rfl) (by simp) (AllReadyH.cons rfl (fun K hK => ?_) AllReadyH.nil)
  have hK' := hid hK
  clear hK
  rw [if_pos (by kernel_rfl)]
  simp only [ly1, ly2, ly3]
  go_simp
  refine (hu4.out _).mono ?_
  rintro e W9 ⟨rfl, hb⟩
  have hR9 := hid (hR8.out.below hb hR8.out.lt)
  have hB9 := hid (bup hb hB8.out)
  clear hb hR8 hB8
  refine hK'.out _ _ (by exact hR9.out) (fun hHeld => ?_)
  clear hK' K
  refine tkn 2 (.string (⟨#[65, 74]⟩ ++ t4)) rfl (by kernel_rfl) (fun _ _ _ h => h) (.inl ⟨by kernel_rfl, fun w _ => by go_simp⟩) hHeld ?_
  simp only [ly, Act.put]
  refine wpAnyH_ready (rs := [4]) (by kernel_rfl) (by simp) (AllReadyH.cons rfl (fun K hK => ?_) AllReadyH.nil)
  have hK' := hid hK
  clear hK
  rw [if_pos (by kernel_rfl)]
  simp only [ly1, ly2, ly3]
  go_simp
  refine (hu1.out _).mono ?_
  rintro e W10 ⟨rfl, hb⟩
  have hR10 := hid (hR9.out.below hb hR9.out.lt)
  have hB10 := hid (bup hb hB9.out)
  clear hb hR9 hB9
  refine hK'.out _ _ (by exact hR10.out) (fun hHeld => ?_)
  clear hK' K
  refine tkn 5 (.string (⟨#[65, 74]⟩ ++ t4 ++ t1)) rfl (by kernel_rfl) (fun _ _ _ h => h) (.inl ⟨by kernel_rfl, fun w _ => by go_simp⟩) hHeld ?_
  simp only [ly, Act.put]
  refine wpAnyH_ready (rs := [8]) (by kernel_rfl) (by simp) (AllReadyH.cons rfl (fun K hK => ?_) AllReadyH.nil)
  have hK' := hid hK
  clear hK
  rw [if_pos (by kernel_rfl)]
  simp only [ly1, ly2, ly3]
  go_simp
  refine (hu2.out _).mono ?_
  rintro e W11 ⟨rfl, hb⟩
  have hR11 := hid (hR10.out.below hb hR10.out.lt)
  have hB11 := hid (bup hb hB10.out)
  clear hb hR10 hB10
  refine hK'.out _ _ (by exact hR11.out) (fun hHeld => ?_)
  clear hK' K
  refine tkn 9 (.string (⟨#[65, 74]⟩ ++ t4 ++ t1 ++ t2)) rfl (by kernel_rfl) (fun _ _ _ h => h) (.inl ⟨by kernel_rfl, fun w _ => by go_simp⟩) hHeld ?_
  simp only [ly, Act.put]
  refine tkn 11 (.string (⟨#[65, 74]⟩ ++ t4 ++ t1 ++ t2 ++ d)) rfl (by kernel_rfl) (fun _ _ _ h => h) (.inl ⟨by kernel_rfl, fun w _ => by go_simp⟩) hHeld ?_
  simp only [ly, Act.put]
  refine wpAnyH_ready (rs := [13]) (by kernel_rfl) (by simp) (AllReadyH.cons rfl (fun K hK => ?_) AllReadyH.nil)
  have hK' := hid hK
  clear hK
  rw [if_pos (by kernel_rfl)]
  simp only [ly1, ly2, ly3]
  go_simp
  refine (hT.out _).mono ?_
  rintro e W12 ⟨rfl, hb⟩
  have hR12 := hid (hR11.out.below hb hR11.out.lt)
  have hB12 := hid (bup hb hB11.out)
  clear hb hR11 hB11
  refine hK'.out _ _ (by exact hR12.out) (fun hHeld => ?_)
  clear hK' K
  refine tkn 14 (.string (⟨#[65, 74]⟩ ++ t4 ++ t1 ++ t2 ++ d ++ ts)) rfl (by kernel_rfl) (fun _ _ _ h => h) (.inl ⟨by kernel_rfl, fun w _ => by go_simp⟩) hHeld ?_
  simp only [ly, Act.put]
  refine tkn 15 (.string (⟨#[65, 74]⟩ ++ t4 ++ t1 ++ t2 ++ d ++ ts)) rfl (by kernel_rfl) (fun _ _ _ h => h) (yieldsIf_assign _ rfl rfl rfl) hHeld ?_
  simp only [ly, Act.put]
  refine wpAnyH_done (by kernel_rfl) ?_ _
  rw [hY.out]
  go_wp2_with (first
    | (go_at_call 12; refine (errNum_any _ _).mono ?_; rintro e w' ⟨rfl, rfl⟩)
    | fail)
  go_loopw [17] (fun ix wr => ∃ i : Nat, X.size ≤ i ∧ i ≤ SB.size ∧ ix = .int .i64 (i : Int) ∧ wr = W12) (fun ix _ => SB.size - (intOf ix).toNat)
  case atStart => exact ⟨X.size, Nat.le_refl _, f7, rfl, rfl⟩
  case round =>
    obtain ⟨i, hi1, hi2, rfl, rfl⟩ := hrel
    by_cases hlt : i < SB.size
    · have hkn : (i : Int) < (SB.size : Int) := by omega
      have hk0 : (0 : Int) ≤ (i : Int) := by omega
      have hix := str_byte SB i hlt (i : Int) rfl
      rw [hzero.out i hi1] at hix
      have hsx : SB[i]'hlt = 0 := by
        have h := hzero.out i hi1
        have h1 : i < SB.data.size := hlt
        rw [← h]
        simp only [ByteArray.getElem_eq_getElem_data, List.getD]
        rw [Array.getElem?_toList, Array.getElem?_eq_getElem h1]
        rfl
      have s2 := IntWalk.i64_in ((i : Int) + 1) (by have := hpb.out; omega)
      have s3 := IntWalk.i64_in (i : Int) (by have := hpb.out; omega)
      go_wp2_with fail
      go_roundw
      case rel => exact ⟨i + 1, by omega, by omega, by go_num, by first | rfl | trivial⟩
      case measure => simp [intOf]; omega
    · obtain rfl : i = SB.size := by omega
      have hno : ¬ (SB.size : Int) < (SB.size : Int) := by omega
      go_wp2_with fail
      go_ret
      exact ⟨rfl, hB12.out⟩

end Go.Proofs.Ytlicmbmhcpfocaa
