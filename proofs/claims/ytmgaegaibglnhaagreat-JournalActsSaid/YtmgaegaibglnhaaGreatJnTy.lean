/- Layer 8, the reference: Seal.
   Layer 8, plain: the record that the reference finds is the record that stands. No function of the program is named here.
   Layer 8: records put behind a row of records.
   Layer 8, the reference: a journal on the document's disk: bytes, Used, clear.
   Layer 8, the reference: the record that stands next.
   Layer 8, the reference: OpenJournal.
   Layer 8, the reference: Append.
   Layer 8: the program's journal and the document's, side by side.
   Layer 8: the acts that JournalActs is handed.
   Layer 8: JournalActs. -/
import Derived.Test.YtmgaegaibglnhaaGreatJnAw
import Derived.Test.YtmgaegaibglnhaaGreatRefTagX
import Derived.Test.YtmgaegaibglnhaaGreatRefBe
import Derived.Test.YtmgaegaibglnhaaGreatArith
import Derived.Test.YtmgaegaibglnhaaGreatJnPl
import Derived.Test.YtmgaegaibglnhaaGreatDkDi
import Derived.Deep.Slices
namespace Go.Proofs.YtmgaegaibglnhaaGreat
open Go.RowKit
open Go.Lib (strCells strCells_length strCells_oneCell)
attribute [local irreducible] Sha.compress Sha.blocks Sha.sha Sha.pad

theorem rTag4_any {A : Option Addr} {m : Nat} {a b c d : ByteArray} {w : World} (hX : Texts w w.heap.size A 4 [a, b, c, d]) (hs : a.size + (b.size + (c.size + d.size)) ≤ 60000) :
    Calls Tryz.prog 104 #[.int .i64 4, .slice A 4 m] w fun e w' => e = .returned (.tuple #[.agg (byteCells (Sha.sha (tagL 4 [a, b, c, d]))).toArray, .int .i64 0]) ∧ Below w.heap.size w w' := by
  have hz : ∀ s ∈ [a, b, c, d], s.size ≤ 140737488351232 := fun s h => by
    simp only [List.mem_cons, List.not_mem_nil, or_false] at h
    rcases h with rfl | rfl | rfl | rfl <;> omega
  have hm : tagMay 4 [a, b, c, d] = true := by
    unfold tagMay
    refine decide_eq_true ⟨by omega, by omega, ?_⟩
    simp only [totS]
    omega
  refine (refTag_any 4 A 4 m _ _ hX (by decide) hz).mono ?_
  rintro e w' ⟨rfl, hb⟩
  refine ⟨?_, hb⟩
  unfold tagAns
  rw [if_pos hm]
  rfl
set_option maxRecDepth 100000 in
set_option maxHeartbeats 6000000 in
theorem rseal_any (prev : List UInt8) (hp : prev.length = 32) (s kd : Nat) (data : ByteArray) (hs : s ≤ 4294967295) (hk : kd ≤ 255) (hd : data.size ≤ 1024) (w : World) :
    Calls Tryz.prog 52 #[.string (txt prev), .int .i64 (s : Int), .agg (recV ⟨(kd : Int), data⟩).toArray] w fun e w' => e = .returned (.string (txt (recHash prev s kd data))) ∧ Below w.heap.size w w' := by
  have hC := hid (hash_cells (recHash prev s kd data) (recHash_len _ _ _ _))
  have hTg := hid (fun (W : World) (A : Option Addr) (m : Nat) (h : Texts W W.heap.size A 4 [txt prev, be 4 s, be 1 kd, data]) => show Calls Tryz.prog 104 #[.int .i64 4, .slice A 4 m] W fun e w' => e = .returned (.tuple #[.agg (byteCells (recHash prev s kd data)).toArray, .int .i64 0]) ∧ Below W.heap.size W w' from rTag4_any h (by rw [txt_size, be_size, be_size, hp]; omega))
  have hu4 := hid (fun W => Be_any (s : Int) 4 4 rfl (by decide) s rfl (by omega) W)
  have hu1 := hid (fun W => Be_any (kd : Int) 1 1 rfl (by decide) kd rfl (by omega) W)
  have hT := hid (fun W => show Calls Tryz.prog 62 #[.agg (byteCells (recHash prev s kd data)).toArray] W fun e w' => e = .returned (.string (txt (recHash prev s kd data))) ∧ Below W.heap.size W w' from tT_any _ (recHash_len _ _ _ _) W)
  show Calls Tryz.prog 52 #[.string (txt prev), .int .i64 (s : Int), .agg #[.int .i64 (kd : Int), .string data]] w _
  obtain ⟨k, hkk⟩ : ∃ k : Int, (kd : Int) = k := ⟨_, rfl⟩
  generalize recHash prev s kd data = rh at *
  generalize byteCells rh = cs at *
  generalize txt rh = ts at *
  generalize be 4 s = t4 at *
  generalize be 1 kd = t1 at *
  generalize txt prev = tp at *
  rw [hkk] at hu1 ⊢
  clear hp hs hk hd hkk
  obtain ⟨g, hg⟩ : ∃ g, w.heap.size = g := ⟨_, rfl⟩
  obtain ⟨W0, hW0⟩ : ∃ V, w.alloc (.cells #[.int .i64 k, .string data] 37) = V := ⟨_, rfl⟩
  have hQ0 := hid (show Holds W0 g 37 [.int .i64 k, .string data] from by rw [← hW0, ← hg]; exact Holds.new _ 37 #[.int .i64 k, .string data])
  have hB0 := hid (show Below w.heap.size w W0 from by rw [← hW0]; exact (Below.refl _ _).alloc (Nat.le_refl _) _)
  have hW0' := hid hW0
  have hgw := hid hg
  have c0 := hQ0.out.cK 0 _ rfl
  have c1 := hQ0.out.cK 1 _ rfl
  clear hW0 hg
  clear c0 c1
  go_enter Tryz.func52, Tryz.ntmps52
  go_wp2_with (first
    | ((with_reducible refine at_slot (some 5) ?_); refine wpList_run rfl (.pointer (some ⟨g, 0, none⟩)) (w.alloc (.cells #[.int .i64 k, .string data] 37)) (by rw [← hgw.out]; kernel_rfl) ?_; rw [hW0'.out])
    | fail)
  refine wp_region_mid (fun a a' W' => ∃ gh gt : Nat, a' = puts a [(10, .string tp), (11, .int .i64 (s : Int)), (12, .string t4), (13, .pointer (some ⟨g, 0, none⟩)), (14, .int .i64 k), (15, .string t1), (16, .pointer (some ⟨g, 1, none⟩)), (17, .string data), (18, .slice (some ⟨gt, 0, none⟩) 4 4), (19, .tuple #[.agg cs.toArray, .int .i64 0]), (9, .tuple #[.agg cs.toArray, .int .i64 0]), (20, .agg cs.toArray), (21, .int .i64 0), (7, .pointer (some ⟨gh, 0, none⟩)), (8, .int .i64 0)] ∧ Holds W' gh 55 cs ∧ Below w.heap.size w W') ?_ ?_
  · skip
    have hb : Below W0.heap.size W0 W0.drew := (Below.refl _ _).drew
    have hQ1 := hid (hQ0.out.below hb hQ0.out.lt)
    have hB1 := hid (bup hb hB0.out)
    clear hb hQ0 hB0
    refine wp_region_held_drew (S := fun V => Holds V g 37 [.int .i64 k, .string data]) (by kernel_rfl) (by exact hQ1.out) (fun hHeld => ?_)
    generalize W0.drew = W1 at *
    refine tkn 0 (.string tp) rfl (by kernel_rfl) (fun _ _ _ h => h) (yieldsIf_move _ rfl rfl rfl) hHeld ?_
    simp only [ly, Act.put]
    refine tkn 1 (.int .i64 (s : Int)) rfl (by kernel_rfl) (fun _ _ _ h => h) (yieldsIf_move _ rfl rfl rfl) hHeld ?_
    simp only [ly, Act.put]
    refine tkn 3 (.pointer (some ⟨g, 0, none⟩)) rfl (by kernel_rfl) (fun _ _ _ h => h) (.inl ⟨by kernel_rfl, fun w _ => by go_simp⟩) hHeld ?_
    simp only [ly, Act.put]
    refine tkn 4 (.int .i64 k) rfl (by kernel_rfl) (fun _ _ _ h => h) (.inl ⟨by kernel_rfl, fun V hS => by have c0 := hS.cK 0 _ rfl; go_simp⟩) hHeld ?_
    simp only [ly, Act.put]
    refine tkn 6 (.pointer (some ⟨g, 1, none⟩)) rfl (by kernel_rfl) (fun _ _ _ h => h) (.inl ⟨by kernel_rfl, fun w _ => by go_simp⟩) hHeld ?_
    simp only [ly, Act.put]
    refine tkn 7 (.string data) rfl (by kernel_rfl) (fun _ _ _ h => h) (.inl ⟨by kernel_rfl, fun V hS => by have c1 := hS.cK 1 _ rfl; go_simp⟩) hHeld ?_
    simp only [ly, Act.put]
    refine wpAnyH_ready (rs := [2, 13]) (by kernel_rfl) (by simp) (AllReadyH.cons rfl (fun K hK => ?_) (AllReadyH.cons rfl (fun K hK => ?_) AllReadyH.nil))
    · skip
      have hK' := hid hK
      clear hK
      rw [if_pos (by kernel_rfl)]
      simp only [ly1, ly2, ly3]
      go_simp
      refine (hu4.out _).mono ?_
      rintro e W2 ⟨rfl, hb⟩
      have hQ2 := hid (hQ1.out.below hb hQ1.out.lt)
      have hB2 := hid (bup hb hB1.out)
      clear hb hQ1 hB1
      refine hK'.out _ _ (by exact hQ2.out) (fun hHeld => ?_)
      clear hK' K
      refine wpAnyH_ready (rs := [5, 13]) (by kernel_rfl) (by simp) (AllReadyH.cons rfl (fun K hK => ?_) (AllReadyH.cons rfl (fun K hK => ?_) AllReadyH.nil))
      · skip
        have hK' := hid hK
        clear hK
        rw [if_pos (by kernel_rfl)]
        simp only [ly1, ly2, ly3]
        go_simp
        refine (hu1.out _).mono ?_
        rintro e W3 ⟨rfl, hb⟩
        have hQ3 := hid (hQ2.out.below hb hQ2.out.lt)
        have hB3 := hid (bup hb hB2.out)
        clear hb hQ2 hB2
        refine hK'.out _ _ (by exact hQ3.out) (fun hHeld => ?_)
        clear hK' K
        refine wpAnyH_ready (rs := [8, 13]) (by kernel_rfl) (by simp) (AllReadyH.cons rfl (fun K hK => ?_) (AllReadyH.cons rfl (fun K hK => ?_) AllReadyH.nil))
        · skip
          have hK' := hid hK
          clear hK
          rw [if_pos (by kernel_rfl)]
          simp only [ly1, ly2, ly3]
          obtain ⟨gt, hgt⟩ : ∃ g, W3.heap.size = g := ⟨_, rfl⟩
          refine wp_run' (.slice (some ⟨gt, 0, none⟩) 4 4) (W3.alloc (.cells #[.string tp, .string t4, .string t1, .string data] 9)) (by rw [← hgt]; kernel_rfl) ?_
          have hb := (Below.refl W3.heap.size W3).alloc (Nat.le_refl _) (.cells #[.string tp, .string t4, .string t1, .string data] 9)
          have hN := Texts.new W3 [tp, t4, t1, data] #[.string tp, .string t4, .string t1, .string data] rfl 4 rfl 9
          rw [hgt] at hN
          generalize W3.alloc (.cells #[.string tp, .string t4, .string t1, .string data] 9) = W4 at *
          have hQ4 := hid (hQ3.out.below hb hQ3.out.lt)
          have hB4 := hid (bup hb hB3.out)
          have hT4 := hid hN
          clear hb hQ3 hB3 hN hgt
          refine hK'.out _ _ (by exact hQ4.out) (fun hHeld => ?_)
          clear hK' K
          refine wpAnyH_ready (rs := [9, 13]) (by kernel_rfl) (by simp) (AllReadyH.cons rfl (fun K hK => ?_) (AllReadyH.cons rfl (fun K hK => ?_) AllReadyH.nil))
          · skip
            have hK' := hid hK
            clear hK
            rw [if_pos (by kernel_rfl)]
            simp only [ly1, ly2, ly3]
            go_simp
            refine (hTg.out _ _ _ hT4.out).mono ?_
            rintro e W5 ⟨rfl, hb⟩
            have hQ5 := hid (hQ4.out.below hb hQ4.out.lt)
            have hB5 := hid (bup hb hB4.out)
            clear hb hQ4 hB4 hT4
            refine hK'.out _ _ (by exact hQ5.out) (fun hHeld => ?_)
            clear hK' K
            refine tkn 10 (.tuple #[.agg cs.toArray, .int .i64 0]) rfl (by kernel_rfl) (fun _ _ _ h => h) (yieldsIf_move _ rfl rfl rfl) hHeld ?_
            simp only [ly, Act.put]
            refine tkn 11 (.agg cs.toArray) rfl (by kernel_rfl) (fun _ _ _ h => h) (.inl ⟨by kernel_rfl, fun w _ => by go_simp⟩) hHeld ?_
            simp only [ly, Act.put]
            refine tkn 12 (.int .i64 0) rfl (by kernel_rfl) (fun _ _ _ h => h) (.inl ⟨by kernel_rfl, fun w _ => by go_simp⟩) hHeld ?_
            simp only [ly, Act.put]
            refine wpAnyH_ready (rs := [13]) (by kernel_rfl) (by simp) (AllReadyH.cons rfl (fun K hK => ?_) AllReadyH.nil)
            have hK' := hid hK
            clear hK
            rw [if_pos (by kernel_rfl)]
            simp only [ly1, ly2, ly3]
            obtain ⟨gh, hgh⟩ : ∃ g, W5.heap.size = g := ⟨_, rfl⟩
            refine wp_run' (.pointer (some ⟨gh, 0, none⟩)) (W5.alloc (.cells z32 55)) (by rw [← hgh]; kernel_rfl) ?_
            have hb := (Below.refl W5.heap.size W5).alloc (Nat.le_refl _) (.cells z32 55)
            have hN : Holds (W5.alloc (.cells z32 55)) gh 55 z32.toList := by rw [← hgh]; exact Holds.new _ _ _
            have hghx := hid (show g < gh from by rw [← hgh]; exact hQ5.out.lt)
            generalize W5.alloc (.cells z32 55) = W6 at *
            have hQ6 := hid (hQ5.out.below hb hQ5.out.lt)
            have hB6 := hid (bup hb hB5.out)
            have hR6 := hid hN
            clear hb hQ5 hB5 hN hgh
            refine hK'.out _ _ (by exact hQ6.out) (fun hHeld => ?_)
            clear hK' K
            refine wpAnyH_ready (rs := [14]) (by kernel_rfl) (by simp) (AllReadyH.cons rfl (fun K hK => ?_) AllReadyH.nil)
            have hK' := hid hK
            clear hK
            rw [if_pos (by kernel_rfl)]
            simp only [ly1, ly2, ly3]
            refine wp_store_mid _ _ _ rfl gh 0 cs.toArray rfl rfl (by exact hC.out.there' hR6.out rfl) (by exact hC.out.size) (by exact hC.out.one) ?_
            generalize hXx : World.setCells _ _ _ _ = W7
            have hR7 := hid (Holds.over (cs := cs) hR6.out (by rw [hC.out.len]; rfl) hXx)
            have hQ7 := hid (holds_far hQ6.out (by have := hghx.out; omega) hXx)
            have hB7 := hid (below_put hB6.out (by have := hghx.out; have := hgw.out; omega) hXx)
            clear hXx hR6 hQ6 hB6
            refine hK'.out _ _ (by exact hQ7.out) (fun hHeld => ?_)
            clear hK' K
            refine tkn 15 (.int .i64 0) rfl (by kernel_rfl) (fun _ _ _ h => h) (yieldsIf_assign _ rfl rfl rfl) hHeld ?_
            simp only [ly, Act.put]
            refine wpAnyH_done (by kernel_rfl) ?_ _
            exact ⟨gh, gt, by simp only [puts, ly, Act.put], hR7.out, hB7.out⟩
          · skip
            have hK' := hid hK
            clear hK
            rw [if_pos (by kernel_rfl)]
            simp only [ly1, ly2, ly3]
            obtain ⟨gh, hgh⟩ : ∃ g, W4.heap.size = g := ⟨_, rfl⟩
            refine wp_run' (.pointer (some ⟨gh, 0, none⟩)) (W4.alloc (.cells z32 55)) (by rw [← hgh]; kernel_rfl) ?_
            have hb := (Below.refl W4.heap.size W4).alloc (Nat.le_refl _) (.cells z32 55)
            have hN : Holds (W4.alloc (.cells z32 55)) gh 55 z32.toList := by rw [← hgh]; exact Holds.new _ _ _
            have hghx := hid (show g < gh from by rw [← hgh]; exact hQ4.out.lt)
            generalize W4.alloc (.cells z32 55) = W5 at *
            have hQ5 := hid (hQ4.out.below hb hQ4.out.lt)
            have hB5 := hid (bup hb hB4.out)
            have hT5 := hid ((hT4.out.below hb).more hb.size)
            have hR5 := hid hN
            clear hb hQ4 hB4 hT4 hN hgh
            refine hK'.out _ _ (by exact hQ5.out) (fun hHeld => ?_)
            clear hK' K
            refine wpAnyH_ready (rs := [9]) (by kernel_rfl) (by simp) (AllReadyH.cons rfl (fun K hK => ?_) AllReadyH.nil)
            have hK' := hid hK
            clear hK
            rw [if_pos (by kernel_rfl)]
            simp only [ly1, ly2, ly3]
            go_simp
            refine (hTg.out _ _ _ hT5.out).mono ?_
            rintro e W6 ⟨rfl, hb⟩
            have hQ6 := hid (hQ5.out.below hb hQ5.out.lt)
            have hB6 := hid (bup hb hB5.out)
            have hR6 := hid (hR5.out.below hb hR5.out.lt)
            clear hb hQ5 hB5 hT5 hR5
            refine hK'.out _ _ (by exact hQ6.out) (fun hHeld => ?_)
            clear hK' K
            refine tkn 10 (.tuple #[.agg cs.toArray, .int .i64 0]) rfl (by kernel_rfl) (fun _ _ _ h => h) (yieldsIf_move _ rfl rfl rfl) hHeld ?_
            simp only [ly, Act.put]
            refine tkn 11 (.agg cs.toArray) rfl (by kernel_rfl) (fun _ _ _ h => h) (.inl ⟨by kernel_rfl, fun w _ => by go_simp⟩) hHeld ?_
            simp only [ly, Act.put]
            refine tkn 12 (.int .i64 0) rfl (by kernel_rfl) (fun _ _ _ h => h) (.inl ⟨by kernel_rfl, fun w _ => by go_simp⟩) hHeld ?_
            simp only [ly, Act.put]
            refine wpAnyH_ready (rs := [14]) (by kernel_rfl) (by simp) (AllReadyH.cons rfl (fun K hK => ?_) AllReadyH.nil)
            have hK' := hid hK
            clear hK
            rw [if_pos (by kernel_rfl)]
            simp only [ly1, ly2, ly3]
            refine wp_store_mid _ _ _ rfl gh 0 cs.toArray rfl rfl (by exact hC.out.there' hR6.out rfl) (by exact hC.out.size) (by exact hC.out.one) ?_
            generalize hXx : World.setCells _ _ _ _ = W7
            have hR7 := hid (Holds.over (cs := cs) hR6.out (by rw [hC.out.len]; rfl) hXx)
            have hQ7 := hid (holds_far hQ6.out (by have := hghx.out; omega) hXx)
            have hB7 := hid (below_put hB6.out (by have := hghx.out; have := hgw.out; omega) hXx)
            clear hXx hR6 hQ6 hB6
            refine hK'.out _ _ (by exact hQ7.out) (fun hHeld => ?_)
            clear hK' K
            refine tkn 15 (.int .i64 0) rfl (by kernel_rfl) (fun _ _ _ h => h) (yieldsIf_assign _ rfl rfl rfl) hHeld ?_
            simp only [ly, Act.put]
            refine wpAnyH_done (by kernel_rfl) ?_ _
            exact ⟨gh, gt, by simp only [puts, ly, Act.put], hR7.out, hB7.out⟩
        · skip
          have hK' := hid hK
          clear hK
          rw [if_pos (by kernel_rfl)]
          simp only [ly1, ly2, ly3]
          obtain ⟨gh, hgh⟩ : ∃ g, W3.heap.size = g := ⟨_, rfl⟩
          refine wp_run' (.pointer (some ⟨gh, 0, none⟩)) (W3.alloc (.cells z32 55)) (by rw [← hgh]; kernel_rfl) ?_
          have hb := (Below.refl W3.heap.size W3).alloc (Nat.le_refl _) (.cells z32 55)
          have hN : Holds (W3.alloc (.cells z32 55)) gh 55 z32.toList := by rw [← hgh]; exact Holds.new _ _ _
          have hghx := hid (show g < gh from by rw [← hgh]; exact hQ3.out.lt)
          generalize W3.alloc (.cells z32 55) = W4 at *
          have hQ4 := hid (hQ3.out.below hb hQ3.out.lt)
          have hB4 := hid (bup hb hB3.out)
          have hR4 := hid hN
          clear hb hQ3 hB3 hN hgh
          refine hK'.out _ _ (by exact hQ4.out) (fun hHeld => ?_)
          clear hK' K
          refine wpAnyH_ready (rs := [8]) (by kernel_rfl) (by simp) (AllReadyH.cons rfl (fun K hK => ?_) AllReadyH.nil)
          have hK' := hid hK
          clear hK
          rw [if_pos (by kernel_rfl)]
          simp only [ly1, ly2, ly3]
          obtain ⟨gt, hgt⟩ : ∃ g, W4.heap.size = g := ⟨_, rfl⟩
          refine wp_run' (.slice (some ⟨gt, 0, none⟩) 4 4) (W4.alloc (.cells #[.string tp, .string t4, .string t1, .string data] 9)) (by rw [← hgt]; kernel_rfl) ?_
          have hb := (Below.refl W4.heap.size W4).alloc (Nat.le_refl _) (.cells #[.string tp, .string t4, .string t1, .string data] 9)
          have hN := Texts.new W4 [tp, t4, t1, data] #[.string tp, .string t4, .string t1, .string data] rfl 4 rfl 9
          rw [hgt] at hN
          generalize W4.alloc (.cells #[.string tp, .string t4, .string t1, .string data] 9) = W5 at *
          have hQ5 := hid (hQ4.out.below hb hQ4.out.lt)
          have hB5 := hid (bup hb hB4.out)
          have hR5 := hid (hR4.out.below hb hR4.out.lt)
          have hT5 := hid hN
          clear hb hQ4 hB4 hR4 hN hgt
          refine hK'.out _ _ (by exact hQ5.out) (fun hHeld => ?_)
          clear hK' K
          refine wpAnyH_ready (rs := [9]) (by kernel_rfl) (by simp) (AllReadyH.cons rfl (fun K hK => ?_) AllReadyH.nil)
          have hK' := hid hK
          clear hK
          rw [if_pos (by kernel_rfl)]
          simp only [ly1, ly2, ly3]
          go_simp
          refine (hTg.out _ _ _ hT5.out).mono ?_
          rintro e W6 ⟨rfl, hb⟩
          have hQ6 := hid (hQ5.out.below hb hQ5.out.lt)
          have hB6 := hid (bup hb hB5.out)
          have hR6 := hid (hR5.out.below hb hR5.out.lt)
          clear hb hQ5 hB5 hR5 hT5
          refine hK'.out _ _ (by exact hQ6.out) (fun hHeld => ?_)
          clear hK' K
          refine tkn 10 (.tuple #[.agg cs.toArray, .int .i64 0]) rfl (by kernel_rfl) (fun _ _ _ h => h) (yieldsIf_move _ rfl rfl rfl) hHeld ?_
          simp only [ly, Act.put]
          refine tkn 11 (.agg cs.toArray) rfl (by kernel_rfl) (fun _ _ _ h => h) (.inl ⟨by kernel_rfl, fun w _ => by go_simp⟩) hHeld ?_
          simp only [ly, Act.put]
          refine tkn 12 (.int .i64 0) rfl (by kernel_rfl) (fun _ _ _ h => h) (.inl ⟨by kernel_rfl, fun w _ => by go_simp⟩) hHeld ?_
          simp only [ly, Act.put]
          refine wpAnyH_ready (rs := [14]) (by kernel_rfl) (by simp) (AllReadyH.cons rfl (fun K hK => ?_) AllReadyH.nil)
          have hK' := hid hK
          clear hK
          rw [if_pos (by kernel_rfl)]
          simp only [ly1, ly2, ly3]
          refine wp_store_mid _ _ _ rfl gh 0 cs.toArray rfl rfl (by exact hC.out.there' hR6.out rfl) (by exact hC.out.size) (by exact hC.out.one) ?_
          generalize hXx : World.setCells _ _ _ _ = W7
          have hR7 := hid (Holds.over (cs := cs) hR6.out (by rw [hC.out.len]; rfl) hXx)
          have hQ7 := hid (holds_far hQ6.out (by have := hghx.out; omega) hXx)
          have hB7 := hid (below_put hB6.out (by have := hghx.out; have := hgw.out; omega) hXx)
          clear hXx hR6 hQ6 hB6
          refine hK'.out _ _ (by exact hQ7.out) (fun hHeld => ?_)
          clear hK' K
          refine tkn 15 (.int .i64 0) rfl (by kernel_rfl) (fun _ _ _ h => h) (yieldsIf_assign _ rfl rfl rfl) hHeld ?_
          simp only [ly, Act.put]
          refine wpAnyH_done (by kernel_rfl) ?_ _
          exact ⟨gh, gt, by simp only [puts, ly, Act.put], hR7.out, hB7.out⟩
      · skip
        have hK' := hid hK
        clear hK
        rw [if_pos (by kernel_rfl)]
        simp only [ly1, ly2, ly3]
        obtain ⟨gh, hgh⟩ : ∃ g, W2.heap.size = g := ⟨_, rfl⟩
        refine wp_run' (.pointer (some ⟨gh, 0, none⟩)) (W2.alloc (.cells z32 55)) (by rw [← hgh]; kernel_rfl) ?_
        have hb := (Below.refl W2.heap.size W2).alloc (Nat.le_refl _) (.cells z32 55)
        have hN : Holds (W2.alloc (.cells z32 55)) gh 55 z32.toList := by rw [← hgh]; exact Holds.new _ _ _
        have hghx := hid (show g < gh from by rw [← hgh]; exact hQ2.out.lt)
        generalize W2.alloc (.cells z32 55) = W3 at *
        have hQ3 := hid (hQ2.out.below hb hQ2.out.lt)
        have hB3 := hid (bup hb hB2.out)
        have hR3 := hid hN
        clear hb hQ2 hB2 hN hgh
        refine hK'.out _ _ (by exact hQ3.out) (fun hHeld => ?_)
        clear hK' K
        refine wpAnyH_ready (rs := [5]) (by kernel_rfl) (by simp) (AllReadyH.cons rfl (fun K hK => ?_) AllReadyH.nil)
        have hK' := hid hK
        clear hK
        rw [if_pos (by kernel_rfl)]
        simp only [ly1, ly2, ly3]
        go_simp
        refine (hu1.out _).mono ?_
        rintro e W4 ⟨rfl, hb⟩
        have hQ4 := hid (hQ3.out.below hb hQ3.out.lt)
        have hB4 := hid (bup hb hB3.out)
        have hR4 := hid (hR3.out.below hb hR3.out.lt)
        clear hb hQ3 hB3 hR3
        refine hK'.out _ _ (by exact hQ4.out) (fun hHeld => ?_)
        clear hK' K
        refine wpAnyH_ready (rs := [8]) (by kernel_rfl) (by simp) (AllReadyH.cons rfl (fun K hK => ?_) AllReadyH.nil)
        have hK' := hid hK
        clear hK
        rw [if_pos (by kernel_rfl)]
        simp only [ly1, ly2, ly3]
        obtain ⟨gt, hgt⟩ : ∃ g, W4.heap.size = g := ⟨_, rfl⟩
        refine wp_run' (.slice (some ⟨gt, 0, none⟩) 4 4) (W4.alloc (.cells #[.string tp, .string t4, .string t1, .string data] 9)) (by rw [← hgt]; kernel_rfl) ?_
        have hb := (Below.refl W4.heap.size W4).alloc (Nat.le_refl _) (.cells #[.string tp, .string t4, .string t1, .string data] 9)
        have hN := Texts.new W4 [tp, t4, t1, data] #[.string tp, .string t4, .string t1, .string data] rfl 4 rfl 9
        rw [hgt] at hN
        generalize W4.alloc (.cells #[.string tp, .string t4, .string t1, .string data] 9) = W5 at *
        have hQ5 := hid (hQ4.out.below hb hQ4.out.lt)
        have hB5 := hid (bup hb hB4.out)
        have hR5 := hid (hR4.out.below hb hR4.out.lt)
        have hT5 := hid hN
        clear hb hQ4 hB4 hR4 hN hgt
        refine hK'.out _ _ (by exact hQ5.out) (fun hHeld => ?_)
        clear hK' K
        refine wpAnyH_ready (rs := [9]) (by kernel_rfl) (by simp) (AllReadyH.cons rfl (fun K hK => ?_) AllReadyH.nil)
        have hK' := hid hK
        clear hK
        rw [if_pos (by kernel_rfl)]
        simp only [ly1, ly2, ly3]
        go_simp
        refine (hTg.out _ _ _ hT5.out).mono ?_
        rintro e W6 ⟨rfl, hb⟩
        have hQ6 := hid (hQ5.out.below hb hQ5.out.lt)
        have hB6 := hid (bup hb hB5.out)
        have hR6 := hid (hR5.out.below hb hR5.out.lt)
        clear hb hQ5 hB5 hR5 hT5
        refine hK'.out _ _ (by exact hQ6.out) (fun hHeld => ?_)
        clear hK' K
        refine tkn 10 (.tuple #[.agg cs.toArray, .int .i64 0]) rfl (by kernel_rfl) (fun _ _ _ h => h) (yieldsIf_move _ rfl rfl rfl) hHeld ?_
        simp only [ly, Act.put]
        refine tkn 11 (.agg cs.toArray) rfl (by kernel_rfl) (fun _ _ _ h => h) (.inl ⟨by kernel_rfl, fun w _ => by go_simp⟩) hHeld ?_
        simp only [ly, Act.put]
        refine tkn 12 (.int .i64 0) rfl (by kernel_rfl) (fun _ _ _ h => h) (.inl ⟨by kernel_rfl, fun w _ => by go_simp⟩) hHeld ?_
        simp only [ly, Act.put]
        refine wpAnyH_ready (rs := [14]) (by kernel_rfl) (by simp) (AllReadyH.cons rfl (fun K hK => ?_) AllReadyH.nil)
        have hK' := hid hK
        clear hK
        rw [if_pos (by kernel_rfl)]
        simp only [ly1, ly2, ly3]
        refine wp_store_mid _ _ _ rfl gh 0 cs.toArray rfl rfl (by exact hC.out.there' hR6.out rfl) (by exact hC.out.size) (by exact hC.out.one) ?_
        generalize hXx : World.setCells _ _ _ _ = W7
        have hR7 := hid (Holds.over (cs := cs) hR6.out (by rw [hC.out.len]; rfl) hXx)
        have hQ7 := hid (holds_far hQ6.out (by have := hghx.out; omega) hXx)
        have hB7 := hid (below_put hB6.out (by have := hghx.out; have := hgw.out; omega) hXx)
        clear hXx hR6 hQ6 hB6
        refine hK'.out _ _ (by exact hQ7.out) (fun hHeld => ?_)
        clear hK' K
        refine tkn 15 (.int .i64 0) rfl (by kernel_rfl) (fun _ _ _ h => h) (yieldsIf_assign _ rfl rfl rfl) hHeld ?_
        simp only [ly, Act.put]
        refine wpAnyH_done (by kernel_rfl) ?_ _
        exact ⟨gh, gt, by simp only [puts, ly, Act.put], hR7.out, hB7.out⟩
    · skip
      have hK' := hid hK
      clear hK
      rw [if_pos (by kernel_rfl)]
      simp only [ly1, ly2, ly3]
      obtain ⟨gh, hgh⟩ : ∃ g, W1.heap.size = g := ⟨_, rfl⟩
      refine wp_run' (.pointer (some ⟨gh, 0, none⟩)) (W1.alloc (.cells z32 55)) (by rw [← hgh]; kernel_rfl) ?_
      have hb := (Below.refl W1.heap.size W1).alloc (Nat.le_refl _) (.cells z32 55)
      have hN : Holds (W1.alloc (.cells z32 55)) gh 55 z32.toList := by rw [← hgh]; exact Holds.new _ _ _
      have hghx := hid (show g < gh from by rw [← hgh]; exact hQ1.out.lt)
      generalize W1.alloc (.cells z32 55) = W2 at *
      have hQ2 := hid (hQ1.out.below hb hQ1.out.lt)
      have hB2 := hid (bup hb hB1.out)
      have hR2 := hid hN
      clear hb hQ1 hB1 hN hgh
      refine hK'.out _ _ (by exact hQ2.out) (fun hHeld => ?_)
      clear hK' K
      refine wpAnyH_ready (rs := [2]) (by kernel_rfl) (by simp) (AllReadyH.cons rfl (fun K hK => ?_) AllReadyH.nil)
      have hK' := hid hK
      clear hK
      rw [if_pos (by kernel_rfl)]
      simp only [ly1, ly2, ly3]
      go_simp
      refine (hu4.out _).mono ?_
      rintro e W3 ⟨rfl, hb⟩
      have hQ3 := hid (hQ2.out.below hb hQ2.out.lt)
      have hB3 := hid (bup hb hB2.out)
      have hR3 := hid (hR2.out.below hb hR2.out.lt)
      clear hb hQ2 hB2 hR2
      refine hK'.out _ _ (by exact hQ3.out) (fun hHeld => ?_)
      clear hK' K
      refine wpAnyH_ready (rs := [5]) (by kernel_rfl) (by simp) (AllReadyH.cons rfl (fun K hK => ?_) AllReadyH.nil)
      have hK' := hid hK
      clear hK
      rw [if_pos (by kernel_rfl)]
      simp only [ly1, ly2, ly3]
      go_simp
      refine (hu1.out _).mono ?_
      rintro e W4 ⟨rfl, hb⟩
      have hQ4 := hid (hQ3.out.below hb hQ3.out.lt)
      have hB4 := hid (bup hb hB3.out)
      have hR4 := hid (hR3.out.below hb hR3.out.lt)
      clear hb hQ3 hB3 hR3
      refine hK'.out _ _ (by exact hQ4.out) (fun hHeld => ?_)
      clear hK' K
      refine wpAnyH_ready (rs := [8]) (by kernel_rfl) (by simp) (AllReadyH.cons rfl (fun K hK => ?_) AllReadyH.nil)
      have hK' := hid hK
      clear hK
      rw [if_pos (by kernel_rfl)]
      simp only [ly1, ly2, ly3]
      obtain ⟨gt, hgt⟩ : ∃ g, W4.heap.size = g := ⟨_, rfl⟩
      refine wp_run' (.slice (some ⟨gt, 0, none⟩) 4 4) (W4.alloc (.cells #[.string tp, .string t4, .string t1, .string data] 9)) (by rw [← hgt]; kernel_rfl) ?_
      have hb := (Below.refl W4.heap.size W4).alloc (Nat.le_refl _) (.cells #[.string tp, .string t4, .string t1, .string data] 9)
      have hN := Texts.new W4 [tp, t4, t1, data] #[.string tp, .string t4, .string t1, .string data] rfl 4 rfl 9
      rw [hgt] at hN
      generalize W4.alloc (.cells #[.string tp, .string t4, .string t1, .string data] 9) = W5 at *
      have hQ5 := hid (hQ4.out.below hb hQ4.out.lt)
      have hB5 := hid (bup hb hB4.out)
      have hR5 := hid (hR4.out.below hb hR4.out.lt)
      have hT5 := hid hN
      clear hb hQ4 hB4 hR4 hN hgt
      refine hK'.out _ _ (by exact hQ5.out) (fun hHeld => ?_)
      clear hK' K
      refine wpAnyH_ready (rs := [9]) (by kernel_rfl) (by simp) (AllReadyH.cons rfl (fun K hK => ?_) AllReadyH.nil)
      have hK' := hid hK
      clear hK
      rw [if_pos (by kernel_rfl)]
      simp only [ly1, ly2, ly3]
      go_simp
      refine (hTg.out _ _ _ hT5.out).mono ?_
      rintro e W6 ⟨rfl, hb⟩
      have hQ6 := hid (hQ5.out.below hb hQ5.out.lt)
      have hB6 := hid (bup hb hB5.out)
      have hR6 := hid (hR5.out.below hb hR5.out.lt)
      clear hb hQ5 hB5 hR5 hT5
      refine hK'.out _ _ (by exact hQ6.out) (fun hHeld => ?_)
      clear hK' K
      refine tkn 10 (.tuple #[.agg cs.toArray, .int .i64 0]) rfl (by kernel_rfl) (fun _ _ _ h => h) (yieldsIf_move _ rfl rfl rfl) hHeld ?_
      simp only [ly, Act.put]
      refine tkn 11 (.agg cs.toArray) rfl (by kernel_rfl) (fun _ _ _ h => h) (.inl ⟨by kernel_rfl, fun w _ => by go_simp⟩) hHeld ?_
      simp only [ly, Act.put]
      refine tkn 12 (.int .i64 0) rfl (by kernel_rfl) (fun _ _ _ h => h) (.inl ⟨by kernel_rfl, fun w _ => by go_simp⟩) hHeld ?_
      simp only [ly, Act.put]
      refine wpAnyH_ready (rs := [14]) (by kernel_rfl) (by simp) (AllReadyH.cons rfl (fun K hK => ?_) AllReadyH.nil)
      have hK' := hid hK
      clear hK
      rw [if_pos (by kernel_rfl)]
      simp only [ly1, ly2, ly3]
      refine wp_store_mid _ _ _ rfl gh 0 cs.toArray rfl rfl (by exact hC.out.there' hR6.out rfl) (by exact hC.out.size) (by exact hC.out.one) ?_
      generalize hXx : World.setCells _ _ _ _ = W7
      have hR7 := hid (Holds.over (cs := cs) hR6.out (by rw [hC.out.len]; rfl) hXx)
      have hQ7 := hid (holds_far hQ6.out (by have := hghx.out; omega) hXx)
      have hB7 := hid (below_put hB6.out (by have := hghx.out; have := hgw.out; omega) hXx)
      clear hXx hR6 hQ6 hB6
      refine hK'.out _ _ (by exact hQ7.out) (fun hHeld => ?_)
      clear hK' K
      refine tkn 15 (.int .i64 0) rfl (by kernel_rfl) (fun _ _ _ h => h) (yieldsIf_assign _ rfl rfl rfl) hHeld ?_
      simp only [ly, Act.put]
      refine wpAnyH_done (by kernel_rfl) ?_ _
      exact ⟨gh, gt, by simp only [puts, ly, Act.put], hR7.out, hB7.out⟩
  clear hQ0 hB0
  rintro a' W20 ⟨gh, gt, rfl, hr, hb⟩
  have hR20 := hid hr
  have hB20 := hid hb
  clear hr hb
  simp only [puts, ly, Act.put]
  go_wp2_with (first
    | ((with_reducible refine at_slot (some 22) ?_); refine wpList_load_mid rfl 55 (.tmp 7) rfl gh 0 rfl cs _ (by exact h_all hR20.out) Tryz.underlying55 rfl (by exact hC.out.size') ?_)
    | fail)
  refine (hT.out _).mono ?_
  rintro e W21 ⟨rfl, hb⟩
  have hR21 := hid (hR20.out.below hb hR20.out.lt)
  have hB21 := hid (bup hb hB20.out)
  clear hb hR20 hB20
  go_wp2_with fail
  go_ret
  exact ⟨rfl, hB21.out⟩

set_option maxRecDepth 100000 in
set_option maxHeartbeats 2000000 in
theorem rSeal_bad (p : ByteArray) (seq : Int) (r : Rec) (h : sealMay seq r = false) (w : World) :
    Calls Tryz.prog 50 #[.string p, .int .i64 seq, .agg (recV r).toArray] w fun e w' => e = .returned (.tuple #[.string ⟨#[]⟩, .int .i64 800]) ∧ Below w.heap.size w w' := by
  obtain ⟨k, data⟩ := r
  have hno : ¬ (0 ≤ seq ∧ seq ≤ 4294967295 ∧ 0 ≤ k ∧ k ≤ 255 ∧ data.size ≤ 1024) := fun hh => by rw [sealMay_iff.2 hh] at h; cases h
  clear h
  show Calls Tryz.prog 50 #[.string p, .int .i64 seq, .agg #[.int .i64 k, .string data]] w _
  obtain ⟨g, hg⟩ : ∃ g, w.heap.size = g := ⟨_, rfl⟩
  obtain ⟨W0, hW0⟩ : ∃ V, w.alloc (.cells #[.int .i64 k, .string data] 37) = V := ⟨_, rfl⟩
  have hQ0 := hid (show Holds W0 g 37 [.int .i64 k, .string data] from by rw [← hW0, ← hg]; exact Holds.new _ 37 #[.int .i64 k, .string data])
  have hB0 := hid (show Below w.heap.size w W0 from by rw [← hW0]; exact (Below.refl _ _).alloc (Nat.le_refl _) _)
  have hW0' := hid hW0
  have hgw := hid hg
  have c0 := hQ0.out.cK 0 _ rfl
  have c1 := hQ0.out.cK 1 _ rfl
  clear hW0 hg
  by_cases h0 : seq < 0
  · skip
    go_enter Tryz.func50, Tryz.ntmps50
    go_wp2_with (first
      | ((with_reducible refine at_slot (some 5) ?_); refine wpList_run rfl (.pointer (some ⟨g, 0, none⟩)) (w.alloc (.cells #[.int .i64 k, .string data] 37)) (by rw [← hgw.out]; kernel_rfl) ?_; rw [hW0'.out])
      | fail)
    go_ret2
    exact ⟨rfl, hB0.out⟩
  · skip
    by_cases h1 : 4294967295 < seq
    · skip
      go_enter Tryz.func50, Tryz.ntmps50
      go_wp2_with (first
        | ((with_reducible refine at_slot (some 5) ?_); refine wpList_run rfl (.pointer (some ⟨g, 0, none⟩)) (w.alloc (.cells #[.int .i64 k, .string data] 37)) (by rw [← hgw.out]; kernel_rfl) ?_; rw [hW0'.out])
        | fail)
      go_ret2
      exact ⟨rfl, hB0.out⟩
    · skip
      by_cases h2 : k < 0
      · skip
        go_enter Tryz.func50, Tryz.ntmps50
        go_wp2_with (first
          | ((with_reducible refine at_slot (some 5) ?_); refine wpList_run rfl (.pointer (some ⟨g, 0, none⟩)) (w.alloc (.cells #[.int .i64 k, .string data] 37)) (by rw [← hgw.out]; kernel_rfl) ?_; rw [hW0'.out])
          | fail)
        go_ret2
        exact ⟨rfl, hB0.out⟩
      · skip
        by_cases h3 : 255 < k
        · skip
          go_enter Tryz.func50, Tryz.ntmps50
          go_wp2_with (first
            | ((with_reducible refine at_slot (some 5) ?_); refine wpList_run rfl (.pointer (some ⟨g, 0, none⟩)) (w.alloc (.cells #[.int .i64 k, .string data] 37)) (by rw [← hgw.out]; kernel_rfl) ?_; rw [hW0'.out])
            | fail)
          go_ret2
          exact ⟨rfl, hB0.out⟩
        · skip
          have h4 : 1024 < (data.size : Int) := by omega
          go_enter Tryz.func50, Tryz.ntmps50
          go_wp2_with (first
            | ((with_reducible refine at_slot (some 5) ?_); refine wpList_run rfl (.pointer (some ⟨g, 0, none⟩)) (w.alloc (.cells #[.int .i64 k, .string data] 37)) (by rw [← hgw.out]; kernel_rfl) ?_; rw [hW0'.out])
            | fail)
          go_ret2
          exact ⟨rfl, hB0.out⟩

set_option maxRecDepth 100000 in
set_option maxHeartbeats 6000000 in
theorem rSeal_good (prev : List UInt8) (hp : prev.length = 32) (s kd : Nat) (data : ByteArray) (hs : s ≤ 4294967295) (hk : kd ≤ 255) (hd : data.size ≤ 1024) (w : World) :
    Calls Tryz.prog 50 #[.string (txt prev), .int .i64 (s : Int), .agg (recV ⟨(kd : Int), data⟩).toArray] w fun e w' => e = .returned (.tuple #[.string (recBytes prev s kd data), .int .i64 0]) ∧ Below w.heap.size w w' := by
  obtain ⟨i0, hi, hz0, hzz, hby⟩ := info_parts Tryz.infoU8
  have hu4 := hid (fun W => Be_any (s : Int) 4 4 rfl (by decide) s rfl (by omega) W)
  have hu1 := hid (fun W => Be_any (kd : Int) 1 1 rfl (by decide) kd rfl (by omega) W)
  have hu2 := hid (fun W => Be_any (data.size : Int) 2 2 rfl (by decide) data.size rfl (by omega) W)
  have hse := hid (fun W => rseal_any prev hp s kd data hs hk hd W)
  obtain ⟨X, hX⟩ : ∃ X, recRaw prev s kd data = X := ⟨_, rfl⟩
  have hXs : X.size = 41 + data.size := by rw [← hX, recRaw_size]
  obtain ⟨L, hL⟩ : ∃ L, (64 - X.size % 64) % 64 = L := ⟨_, rfl⟩
  have hLw : L = wholes (41 + data.size) * 64 - (41 + data.size) := by rw [← hL, hXs]; unfold wholes; omega
  have hfin := hid (show X ++ zeroS L = recBytes prev s kd data from by
    unfold recBytes
    rw [hX, hLw])
  have e1 : (X.size : Int).tmod 64 = ((X.size % 64 : Nat) : Int) := by rw [Int.tmod_eq_emod_of_nonneg (by omega)]; rfl
  obtain ⟨q, hq⟩ : ∃ q, X.size % 64 = q := ⟨_, rfl⟩
  rw [hq] at e1 hL
  have hq64 : q < 64 := by rw [← hq]; exact Nat.mod_lt _ (by decide)
  have e2 : IntKind.i64.wrap (q : Int) = (q : Int) := IntWalk.i64_in _ (by omega)
  obtain ⟨y, hy⟩ : ∃ y, 64 - q = y := ⟨_, rfl⟩
  rw [hy] at hL
  have e3 : IntKind.i64.wrap (64 - (q : Int)) = (y : Int) := by rw [IntWalk.i64_in _ (by omega)]; omega
  have e4 : (y : Int).tmod 64 = (L : Int) := by rw [Int.tmod_eq_emod_of_nonneg (by omega)]; omega
  have e5 : IntKind.i64.wrap (L : Int) = (L : Int) := IntWalk.i64_in _ (by omega)
  have hL64 : L < 64 := by rw [← hL]; exact Nat.mod_lt _ (by decide)
  have hzs := zeroS_size L
  have zc : X.size + (zeroS L).size ≤ 9223372036854775807 := by omega
  obtain ⟨zp, hzp⟩ : ∃ z, zeroS L = z := ⟨_, rfl⟩
  have hzp' := hid hzp
  have hzl := hid (show L = zp.size from by rw [← hzp, hzs])
  rw [hzp] at hfin zc
  have hY := hid (show (⟨#[65, 74]⟩ : ByteArray) ++ be 4 s ++ be 1 kd ++ be 2 data.size ++ data ++ txt (recHash prev s kd data) = X from hX)
  have b4 := be_size 4 s
  have b1 := be_size 1 kd
  have b2 := be_size 2 data.size
  have bs : (txt (recHash prev s kd data)).size = 32 := by rw [txt_size, recHash_len]
  show Calls Tryz.prog 50 #[.string (txt prev), .int .i64 (s : Int), .agg #[.int .i64 (kd : Int), .string data]] w _
  have hse := hid (fun W => show Calls Tryz.prog 52 #[.string (txt prev), .int .i64 (s : Int), .agg #[.int .i64 (kd : Int), .string data]] W fun e w' => e = .returned (.string (txt (recHash prev s kd data))) ∧ Below W.heap.size W w' from hse.out W)
  obtain ⟨k, hkk⟩ : ∃ k : Int, (kd : Int) = k := ⟨_, rfl⟩
  generalize txt (recHash prev s kd data) = ts at *
  generalize be 4 s = t4 at *
  generalize be 1 kd = t1 at *
  generalize be 2 data.size = t2 at *
  generalize txt prev = tp at *
  have hn1 : (0 : Int) ≤ (s : Int) := by omega
  have hn2 : (s : Int) ≤ 4294967295 := by omega
  have hn3 : (0 : Int) ≤ k := by omega
  have hn4 : k ≤ 255 := by omega
  have hn5 : (data.size : Int) ≤ 1024 := by omega
  rw [hkk] at hu1 hse ⊢
  have y1 : 2 + t4.size ≤ 9223372036854775807 := by omega
  have y2 : 2 + t4.size + t1.size ≤ 9223372036854775807 := by omega
  have y3 : 2 + t4.size + t1.size + t2.size ≤ 9223372036854775807 := by omega
  have y4 : 2 + t4.size + t1.size + t2.size + data.size ≤ 9223372036854775807 := by omega
  have y5 : 2 + t4.size + t1.size + t2.size + data.size + ts.size ≤ 9223372036854775807 := by omega
  clear hp hs hk hd hX hXs hLw hq hq64 hL hy hzs hzp b4 b1 b2 bs hkk
  obtain ⟨g, hg⟩ : ∃ g, w.heap.size = g := ⟨_, rfl⟩
  obtain ⟨W0, hW0⟩ : ∃ V, w.alloc (.cells #[.int .i64 k, .string data] 37) = V := ⟨_, rfl⟩
  have hQ0 := hid (show Holds W0 g 37 [.int .i64 k, .string data] from by rw [← hW0, ← hg]; exact Holds.new _ 37 #[.int .i64 k, .string data])
  have hB0 := hid (show Below w.heap.size w W0 from by rw [← hW0]; exact (Below.refl _ _).alloc (Nat.le_refl _) _)
  have hW0' := hid hW0
  have hgw := hid hg
  have c0 := hQ0.out.cK 0 _ rfl
  have c1 := hQ0.out.cK 1 _ rfl
  clear hW0 hg
  go_enter Tryz.func50, Tryz.ntmps50
  go_wp2_with (first
    | ((with_reducible refine at_slot (some 5) ?_); refine wpList_run rfl (.pointer (some ⟨g, 0, none⟩)) (w.alloc (.cells #[.int .i64 k, .string data] 37)) (by rw [← hgw.out]; kernel_rfl) ?_; rw [hW0'.out])
    | fail)
  clear c0 c1
  have hb : Below W0.heap.size W0 W0.drew := (Below.refl _ _).drew
  have hQ1 := hid (hQ0.out.below hb hQ0.out.lt)
  have hB1 := hid (bup hb hB0.out)
  clear hb hQ0 hB0
  refine wp_region_held_drew (S := fun V => Holds V g 37 [.int .i64 k, .string data]) (by kernel_rfl) (by exact hQ1.out) (fun hHeld => ?_)
  generalize W0.drew = W1 at *
  refine tkn 0 (.int .i64 (s : Int)) rfl (by kernel_rfl) (fun _ _ _ h => h) (yieldsIf_move _ rfl rfl rfl) hHeld ?_
  simp only [ly, Act.put]
  refine tkn 3 (.pointer (some ⟨g, 0, none⟩)) rfl (by kernel_rfl) (fun _ _ _ h => h) (.inl ⟨by kernel_rfl, fun w _ => by go_simp⟩) hHeld ?_
  simp only [ly, Act.put]
  refine tkn 4 (.int .i64 k) rfl (by kernel_rfl) (fun _ _ _ h => h) (.inl ⟨by kernel_rfl, fun V hS => by have c0 := hS.cK 0 _ rfl; go_simp⟩) hHeld ?_
  simp only [ly, Act.put]
  refine tkn 7 (.pointer (some ⟨g, 1, none⟩)) rfl (by kernel_rfl) (fun _ _ _ h => h) (.inl ⟨by kernel_rfl, fun w _ => by go_simp⟩) hHeld ?_
  simp only [ly, Act.put]
  refine tkn 8 (.string data) rfl (by kernel_rfl) (fun _ _ _ h => h) (.inl ⟨by kernel_rfl, fun V hS => by have c1 := hS.cK 1 _ rfl; go_simp⟩) hHeld ?_
  simp only [ly, Act.put]
  refine tkn 9 (.int .i64 (data.size : Int)) rfl (by kernel_rfl) (fun _ _ _ h => h) (.inl ⟨by kernel_rfl, fun w _ => by go_simp⟩) hHeld ?_
  simp only [ly, Act.put]
  refine tkn 12 (.pointer (some ⟨g, 1, none⟩)) rfl (by kernel_rfl) (fun _ _ _ h => h) (.inl ⟨by kernel_rfl, fun w _ => by go_simp⟩) hHeld ?_
  simp only [ly, Act.put]
  refine tkn 13 (.string data) rfl (by kernel_rfl) (fun _ _ _ h => h) (.inl ⟨by kernel_rfl, fun V hS => by have c1 := hS.cK 1 _ rfl; go_simp⟩) hHeld ?_
  simp only [ly, Act.put]
  refine tkn 15 (.string tp) rfl (by kernel_rfl) (fun _ _ _ h => h) (yieldsIf_move _ rfl rfl rfl) hHeld ?_
  simp only [ly, Act.put]
  refine tkn 16 (.int .i64 (s : Int)) rfl (by kernel_rfl) (fun _ _ _ h => h) (yieldsIf_move _ rfl rfl rfl) hHeld ?_
  simp only [ly, Act.put]
  refine tkn 17 (.agg #[.int .i64 k, .string data]) rfl (by kernel_rfl) (fun _ _ _ h => h) (yieldsIf_load_mid (by kernel_rfl) _ _ rfl _ _ rfl _ _ (fun V hS => h_all hS) Tryz.underlying37 rfl (by exact recSizeL ⟨k, data⟩)) hHeld ?_
  simp only [ly, Act.put]
  refine wpAnyH_ready (rs := [1]) (by kernel_rfl) (by simp) (AllReadyH.cons rfl (fun K hK => ?_) AllReadyH.nil)
  have hK' := hid hK
  clear hK
  rw [if_pos (by kernel_rfl)]
  simp only [ly1, ly2, ly3]
  go_simp
  refine (hu4.out _).mono ?_
  rintro e W2 ⟨rfl, hb⟩
  have hQ2 := hid (hQ1.out.below hb hQ1.out.lt)
  have hB2 := hid (bup hb hB1.out)
  clear hb hQ1 hB1
  refine hK'.out _ _ (by exact hQ2.out) (fun hHeld => ?_)
  clear hK' K
  refine tkn 2 (.string (⟨#[65, 74]⟩ ++ t4)) rfl (by kernel_rfl) (fun _ _ _ h => h) (.inl ⟨by kernel_rfl, fun w _ => by go_simp⟩) hHeld ?_
  simp only [ly, Act.put]
  refine wpAnyH_ready (rs := [5]) (by kernel_rfl) (by simp) (AllReadyH.cons rfl (fun K hK => ?_) AllReadyH.nil)
  have hK' := hid hK
  clear hK
  rw [if_pos (by kernel_rfl)]
  simp only [ly1, ly2, ly3]
  go_simp
  refine (hu1.out _).mono ?_
  rintro e W3 ⟨rfl, hb⟩
  have hQ3 := hid (hQ2.out.below hb hQ2.out.lt)
  have hB3 := hid (bup hb hB2.out)
  clear hb hQ2 hB2
  refine hK'.out _ _ (by exact hQ3.out) (fun hHeld => ?_)
  clear hK' K
  refine tkn 6 (.string (⟨#[65, 74]⟩ ++ t4 ++ t1)) rfl (by kernel_rfl) (fun _ _ _ h => h) (.inl ⟨by kernel_rfl, fun w _ => by go_simp⟩) hHeld ?_
  simp only [ly, Act.put]
  refine wpAnyH_ready (rs := [10]) (by kernel_rfl) (by simp) (AllReadyH.cons rfl (fun K hK => ?_) AllReadyH.nil)
  have hK' := hid hK
  clear hK
  rw [if_pos (by kernel_rfl)]
  simp only [ly1, ly2, ly3]
  go_simp
  refine (hu2.out _).mono ?_
  rintro e W4 ⟨rfl, hb⟩
  have hQ4 := hid (hQ3.out.below hb hQ3.out.lt)
  have hB4 := hid (bup hb hB3.out)
  clear hb hQ3 hB3
  refine hK'.out _ _ (by exact hQ4.out) (fun hHeld => ?_)
  clear hK' K
  refine tkn 11 (.string (⟨#[65, 74]⟩ ++ t4 ++ t1 ++ t2)) rfl (by kernel_rfl) (fun _ _ _ h => h) (.inl ⟨by kernel_rfl, fun w _ => by go_simp⟩) hHeld ?_
  simp only [ly, Act.put]
  refine tkn 14 (.string (⟨#[65, 74]⟩ ++ t4 ++ t1 ++ t2 ++ data)) rfl (by kernel_rfl) (fun _ _ _ h => h) (.inl ⟨by kernel_rfl, fun w _ => by go_simp⟩) hHeld ?_
  simp only [ly, Act.put]
  refine wpAnyH_ready (rs := [18]) (by kernel_rfl) (by simp) (AllReadyH.cons rfl (fun K hK => ?_) AllReadyH.nil)
  have hK' := hid hK
  clear hK
  rw [if_pos (by kernel_rfl)]
  simp only [ly1, ly2, ly3]
  go_simp
  refine (hse.out _).mono ?_
  rintro e W5 ⟨rfl, hb⟩
  have hQ5 := hid (hQ4.out.below hb hQ4.out.lt)
  have hB5 := hid (bup hb hB4.out)
  clear hb hQ4 hB4
  refine hK'.out _ _ (by exact hQ5.out) (fun hHeld => ?_)
  clear hK' K
  refine tkn 19 (.string (⟨#[65, 74]⟩ ++ t4 ++ t1 ++ t2 ++ data ++ ts)) rfl (by kernel_rfl) (fun _ _ _ h => h) (.inl ⟨by kernel_rfl, fun w _ => by go_simp⟩) hHeld ?_
  simp only [ly, Act.put]
  refine tkn 20 (.string (⟨#[65, 74]⟩ ++ t4 ++ t1 ++ t2 ++ data ++ ts)) rfl (by kernel_rfl) (fun _ _ _ h => h) (yieldsIf_assign _ rfl rfl rfl) hHeld ?_
  simp only [ly, Act.put]
  refine wpAnyH_done (by kernel_rfl) ?_ _
  rw [hY.out]
  go_wp2_with (first
    | ((with_reducible refine at_slot (some 57) ?_); refine wpList_make_zeros rfl _ _ 82 rfl 5 i0 Tryz.underlying82 hi hz0 hzz hby _ L rfl rfl rfl (by omega) zp hzp'.out ?_; intro W40 hRz hb; have hcv := run_convert_row (P := Tryz.prog) (w := W40) (e := 5) 82 9 Tryz.underlying82 Tryz.underlying5 Tryz.underlying9 hzl.out hRz; have hcv' := hid hcv; clear hcv hRz; have hB40 := hid (bup hb hB5.out); clear hb)
    | ((with_reducible refine at_slot (some 58) ?_); refine wpList_convert rfl 82 9 (.tmp 57) rfl _ (.string zp) _ rfl (by exact hcv'.out) ?_)
    | fail)
  go_ret2
  exact ⟨congrArg (fun s => Ending.returned (.tuple #[.string s, .int .i64 0])) hfin.out, hB40.out⟩

theorem rSeal_any (prev : List UInt8) (hp : prev.length = 32) (seq : Int) (r : Rec) (w : World) :
    Calls Tryz.prog 50 #[.string (txt prev), .int .i64 seq, .agg (recV r).toArray] w fun e w' => e = .returned (.tuple #[.string (sealAns prev seq r).1, .int .i64 (sealAns prev seq r).2]) ∧ Below w.heap.size w w' := by
  cases hm : sealMay seq r with
  | false =>
    unfold sealAns
    rw [hm]
    exact rSeal_bad _ seq r hm w
  | true =>
    obtain ⟨h1, h2, h3, h4, h5⟩ := sealMay_iff.1 hm
    unfold sealAns
    rw [hm]
    obtain ⟨s, rfl⟩ : ∃ s : Nat, seq = (s : Int) := ⟨seq.toNat, by omega⟩
    obtain ⟨k, data⟩ := r
    obtain ⟨kd, rfl⟩ : ∃ n : Nat, k = (n : Int) := ⟨k.toNat, by have : 0 ≤ k := h3; omega⟩
    exact rSeal_good prev hp s kd data (by omega) (by have : (kd : Int) ≤ 255 := h4; omega) h5 w

end Go.Proofs.YtmgaegaibglnhaaGreat
namespace Go.Proofs.YtmgaegaibglnhaaGreat
open Go.RowKit
attribute [local irreducible] Sha.compress Sha.blocks Sha.sha Sha.pad

theorem join_take {l : List ByteArray} (h : ∀ s ∈ l, s.size = 64) (m : Nat) : joinS (l.take m) = (joinS l).take (m * 64) := by
  induction l generalizing m with
  | nil => rw [List.take_nil]; exact List.take_nil.symm
  | cons x l ih =>
    cases m with
    | zero => rw [List.take_zero, Nat.zero_mul, List.take_zero]; rfl
    | succ m =>
      have hx : x.data.toList.length = 64 := by rw [data_length]; exact h x (List.mem_cons_self ..)
      have e1 : joinS (x :: l.take m) = x.data.toList ++ joinS (l.take m) := rfl
      have e2 : joinS (x :: l) = x.data.toList ++ joinS l := rfl
      rw [List.take_succ_cons, e1, e2, ih (fun s hs => h s (List.mem_cons_of_mem _ hs)), show (m + 1) * 64 = x.data.toList.length + m * 64 from by omega, List.take_length_add_append]
theorem read_less {xs : List ByteArray} {u k m : Nat} (hx : ∀ s ∈ xs, s.size = 64) (hk : u + k ≤ xs.length) (hm : m ≤ k) : (readS xs u m).data.toList = (readS xs u k).data.toList.take (m * 64) := by
  unfold readS
  rw [if_pos (by omega), if_pos hk, joinB_list, joinB_list, ← join_take (fun s hs => hx s (List.mem_of_mem_drop (List.mem_of_mem_take hs))), List.take_take, Nat.min_eq_left hm]
/-- The record that the reference finds. -/
def refNext (xs : List ByteArray) (st : JSt) : Option (Rec × ByteArray) :=
  if ¬ st.used + 1 ≤ xs.length ∨ (readS xs st.used 1).extract 0 2 ≠ magicT then none
  else if ¬ st.used + wholes (41 + num ((readS xs st.used 1).extract 7 9)) ≤ xs.length ∨ 1024 < num ((readS xs st.used 1).extract 7 9) then none
  else if (sealAns st.prev (st.seq : Int) ⟨(num ((readS xs st.used 1).extract 6 7) : Int), (readS xs st.used (wholes (41 + num ((readS xs st.used 1).extract 7 9)))).extract 9 (9 + num ((readS xs st.used 1).extract 7 9))⟩).2 = 0 ∧
      (sealAns st.prev (st.seq : Int) ⟨(num ((readS xs st.used 1).extract 6 7) : Int), (readS xs st.used (wholes (41 + num ((readS xs st.used 1).extract 7 9)))).extract 9 (9 + num ((readS xs st.used 1).extract 7 9))⟩).1 = readS xs st.used (wholes (41 + num ((readS xs st.used 1).extract 7 9)))
    then some (⟨(num ((readS xs st.used 1).extract 6 7) : Int), (readS xs st.used (wholes (41 + num ((readS xs st.used 1).extract 7 9)))).extract 9 (9 + num ((readS xs st.used 1).extract 7 9))⟩, readS xs st.used (wholes (41 + num ((readS xs st.used 1).extract 7 9)))) else none
theorem refNext_of {xs : List ByteArray} {st : JSt} {p : Rec × ByteArray} (hx : ∀ s ∈ xs, s.size = 64) (h : nextS xs st = some p) : refNext xs st = some p := by
  obtain ⟨⟨kd, d⟩, t⟩ := p
  obtain ⟨h1, h2, h3, h4, h5⟩ := nextS_some h hx
  obtain ⟨m1, m2, m3, m4, m5⟩ := sealMay_iff.1 h2
  have m3 : 0 ≤ kd := m3
  have m4 : kd ≤ 255 := m4
  have m5 : d.size ≤ 1024 := m5
  have h3 : t = recBytes st.prev st.seq kd.toNat d := h3
  have h4 : readS xs st.used (wholes (41 + d.size)) = t := h4
  have h5 : st.used + wholes (41 + d.size) ≤ xs.length := h5
  have hw := wholes_ge (41 + d.size)
  have hl := read_less hx h5 (m := 1) (by omega)
  rw [h4] at hl
  obtain ⟨p1, p2, p3, -⟩ := rec_parts st.prev st.seq kd.toNat d (by omega) m5
  rw [← h3] at p1 p2 p3
  have e1 : (readS xs st.used 1).extract 7 9 = t.extract 7 9 := cut_take _ _ 7 9 (1 * 64) (by decide) hl
  have e2 : (readS xs st.used 1).extract 6 7 = t.extract 6 7 := cut_take _ _ 6 7 (1 * 64) (by decide) hl
  have e3 : (readS xs st.used 1).extract 0 2 = magicT := by
    rw [cut_take _ t 0 2 (1 * 64) (by decide) hl]
    refine bytes_ext ?_
    obtain ⟨z, hz⟩ := rec_list st.prev st.seq kd.toNat d
    rw [ext_cut, h3, hz]
    rfl
  have hse : sealAns st.prev (st.seq : Int) ⟨kd, d⟩ = (t, 0) := by
    unfold sealAns
    rw [if_pos h2, h3]
    rfl
  unfold refNext
  rw [e1, e2, p1, p2, e3, if_neg (by intro hh; rcases hh with hh | hh; · omega
                                     · exact hh rfl), if_neg (by omega), h4, p3, show ((kd.toNat : Nat) : Int) = kd from by omega, hse]
  exact if_pos ⟨rfl, rfl⟩
theorem nextS_of {xs : List ByteArray} {st : JSt} {p : Rec × ByteArray} (hx : ∀ s ∈ xs, s.size = 64) (h : refNext xs st = some p) : nextS xs st = some p := by
  unfold refNext at h
  obtain ⟨n, hn⟩ : ∃ n, num ((readS xs st.used 1).extract 7 9) = n := ⟨_, rfl⟩
  rw [hn] at h
  split at h
  · cases h
  rename_i c1
  split at h
  · cases h
  rename_i c2
  split at h
  · rename_i c3
    have a1 : st.used + 1 ≤ xs.length := by
      by_cases q : st.used + 1 ≤ xs.length
      · exact q
      · exact absurd (.inl q) c1
    have a2 : st.used + wholes (41 + n) ≤ xs.length := by
      by_cases q : st.used + wholes (41 + n) ≤ xs.length
      · exact q
      · exact absurd (.inl q) c2
    have z1 := readS_size hx st.used 1
    rw [if_pos a1] at z1
    have z2 := readS_size hx st.used (wholes (41 + n))
    rw [if_pos a2] at z2
    have hw := wholes_ge (41 + n)
    have hg : guessS xs st.used = ⟨(num ((readS xs st.used 1).extract 6 7) : Int), (readS xs st.used (wholes (41 + n))).extract 9 (9 + n)⟩ := by
      unfold guessS
      rw [hn, show 9 + n + 32 = 41 + n from by omega, if_neg (by omega), if_neg (by omega)]
    unfold nextS
    rw [hg, c3.2, z2, Nat.mul_div_cancel _ (by decide)]
    rw [if_pos ⟨c3.1, rfl⟩]
    exact h
  · cases h
theorem refNext_eq {xs : List ByteArray} (hx : ∀ s ∈ xs, s.size = 64) (st : JSt) : refNext xs st = nextS xs st := by
  cases h : nextS xs st with
  | some p => exact refNext_of hx h
  | none =>
    cases h2 : refNext xs st with
    | none => rfl
    | some p =>
      rw [nextS_of hx h2] at h
      cases h

end Go.Proofs.YtmgaegaibglnhaaGreat
namespace Go.Proofs.YtmgaegaibglnhaaGreat
open Go.RowKit
open Go.Lib (strCells strCells_length strCells_oneCell)
attribute [local irreducible] Sha.compress Sha.blocks Sha.sha Sha.pad

section
variable {ops : Array Oper} {rest : List Oper} {a : Act} {w : World} {Q : Exit → Act → World → Prop}
/-- One record put behind a row of records. -/
theorem wpList_pushRec {o1 o2 : Oper} (hg1 : o1.guard = none) (hg2 : o2.guard = none) (x s y : Operand) (ho1 : o1.op = .buildSlice 93 1 #[(0, x)]) (ho2 : o2.op = .call { callee := .builtin .append, args := #[s, y], argTypes := #[93, 93] })
    (B : Nat) (A : Option Addr) (n' c : Nat) (cs : List Value) (R : Rec) (hx : a.eval x = .agg (recV R).toArray) (hs : (a.put o1.dst (.slice (some ⟨w.heap.size, 0, none⟩) 1 1)).eval s = .slice A n' c) (hy : (a.put o1.dst (.slice (some ⟨w.heap.size, 0, none⟩) 1 1)).eval y = .slice (some ⟨w.heap.size, 0, none⟩) 1 1)
    (h63 : n' ≤ 1000000) (hown : w.ownsRow B 37 2 (.slice A n' c) n' cs) (hB : B ≤ w.heap.size)
    (h : ∀ A2 c2 w', w'.ownsRow B 37 2 (.slice A2 (n' + 1) c2) (n' + 1) (cs ++ recV R) → w.grownBy w' (Value.slice A n' c).ownBlock → wpList Tryz.prog ops Q rest ((a.put o1.dst (.slice (some ⟨w.heap.size, 0, none⟩) 1 1)).put o2.dst (.slice A2 (n' + 1) c2)) w') :
    wpList Tryz.prog ops Q (o1 :: o2 :: rest) a w := by
  obtain ⟨i0, hi0, hz0, hz1, hz2⟩ := info_parts Tryz.infoRec
  refine wpList_plain hg1 fun K hK => ?_
  refine wp_build_one 93 37 x ho1 i0 _ Tryz.underlying93 hi0 hz0 (recV R).toArray hx (by rw [hz1]; rfl) (by show 0 < 2; decide) (by show 2 ≤ 1000000; decide) ?_
  refine hK _ _ ?_
  clear hK K
  have hb1 : Below w.heap.size w (w.alloc (.cells (recV R).toArray 37)) := (Below.refl _ _).alloc (Nat.le_refl _) _
  have hown1 := rows_on hown hb1
  have hH := Holds.new w 37 (recV R).toArray
  have hcl : ∀ j u, (recV R)[j]? = some u → (w.alloc (.cells (recV R).toArray 37)).cell? ((⟨w.heap.size, 0, none⟩ : Addr).add j) = some u := fun j u hj => by
    rw [show (⟨w.heap.size, 0, none⟩ : Addr).add j = ⟨w.heap.size, j, none⟩ from by unfold Addr.add; split <;> simp_all, hH.cell]
    exact hj
  refine wpList_plain hg2 fun K hK => ?_
  rw [← hz1] at hown1
  obtain ⟨A2, c2, w', hr, hrow, hg, hf⟩ := run_append_fresh (P := Tryz.prog) (w.alloc (.cells (recV R).toArray 37)) B 93 o2.type 37 i0 _ Tryz.underlying93 hi0 hz0 (by rw [hz1]; rfl) (by rw [hz1]; decide) A n' c cs hown1 ⟨w.heap.size, 0, none⟩ 1 1 (recV R) (by decide) (by rw [hz1]; rfl) hcl (recV_one R) (by omega) (by rw [hz2]; omega) (Nat.le_trans hB hb1.size)
  rw [hz1] at hrow
  unfold Oper.wp execOp
  simp only [ho2, resolve, invoke, builtin, Sem.run_bind, Sem.run_pure, Result.andThen_ok, List.map_toArray, List.map_cons, List.map_nil, hs, hy, hr]
  exact hK _ _ (h A2 c2 w' hrow ⟨hg.os.trans hb1.os, hg.tape.trans hb1.tape, hg.output.trans hb1.output, Nat.le_trans hb1.size hg.size, fun k hk hne => (hg.block k (Nat.lt_of_lt_of_le hk hb1.size) hne).trans (hb1.block k hk)⟩)
end
/-- A row of records lies in no block of another type. -/
theorem recs_ne {w : World} {B n k g : Nat} {t : TypeId} {v : Value} {xs cs : List Value} (h : w.ownsRow B 37 2 v n xs) (hk : v.ownBlock = some k) (hg : Holds w g t cs) (ht : t ≠ 37) : k ≠ g := by
  intro e
  subst e
  rcases h.2 with ⟨hn, _⟩ | ⟨q, cap, cur, hv, hb, hq, rest⟩
  · rw [hn] at hk; cases hk
  · rw [hv] at hk
    have e : q = k := Option.some.inj hk
    subst e
    unfold Holds at hg
    rw [hq] at hg
    injection hg with h1
    injection h1 with _ h2
    exact ht h2.symm
theorem recs_nemap {w : World} {B n k b : Nat} {v : Value} {xs : List Value} {m : List (Value × Value)} (h : w.ownsRow B 37 2 v n xs) (hk : v.ownBlock = some k) (hg : MapS w b m) : k ≠ b := by
  intro e
  subst e
  obtain ⟨_, c, t, f, hq⟩ := rows_cells h hk
  obtain ⟨es, clock, hb, _⟩ := hg
  rw [hq] at hb
  cases hb
/-- A row of records and a disk. -/
theorem recs_dk {w : World} {B n k d r b m : Nat} {D : Dk} {v : Value} {xs : List Value} (h : w.ownsRow B 37 2 v n xs) (hk : v.ownBlock = some k) (hA : DiskAt w d r b m D) : k ≠ d ∧ k ≠ r ∧ k ≠ b :=
  ⟨recs_ne h hk hA.own (by decide), recs_ne h hk hA.row (by decide), recs_nemap h hk hA.map⟩
theorem recs_turned {w w' : World} {B n d r b m : Nat} {D : Dk} {v : Value} {xs : List Value} (h : w.ownsRow B 37 2 v n xs) (hA : DiskAt w d r b m D) (hT : Turns w w' r (some b)) : w'.ownsRow B 37 2 v n xs :=
  rows_of_blocks h fun k hk => hT.block k (h.lt k hk).2 (recs_dk h hk hA).2.1 (fun e => (recs_dk h hk hA).2.2 (Option.some.inj e))
theorem recs_turnedS {w w' : World} {B n d r b m j : Nat} {D : Dk} {v : Value} {xs js : List Value} (h : w.ownsRow B 37 2 v n xs) (hA : DiskAt w d r b m D) (hJ : Holds w j 101 js) (hT : TurnS (JS j r b) w w') : w'.ownsRow B 37 2 v n xs :=
  rows_of_blocks h fun k hk => hT.block k (h.lt k hk).2 (fun hs => by
    rcases hs with e | e | e
    · exact recs_ne h hk hJ (by decide) e
    · exact (recs_dk h hk hA).2.1 e
    · exact (recs_dk h hk hA).2.2 e)
/-- Each record takes a sector at least. -/
theorem stand_seq {xs : List ByteArray} {st st' : JSt} {l : List (Rec × ByteArray)} (h : stand xs st l = some st') : st'.seq + st.used ≤ st'.used + st.seq := by
  induction l generalizing st with
  | nil => rw [Option.some.inj h]; omega
  | cons p l ih =>
    unfold stand at h
    by_cases hq : nextS xs st = some p
    · rw [if_pos hq] at h
      have h1 := ih h
      have e1 : (st.pass p.1 p.2).seq = st.seq + 1 := rfl
      have e2 : (st.pass p.1 p.2).used = st.used + p.2.size / 64 := rfl
      have e3 : 1 ≤ p.2.size / 64 := by
        unfold nextS at hq
        split at hq
        · rename_i hc
          have e4 : (sealAns st.prev (st.seq : Int) (guessS xs st.used)).1 = p.2 := congrArg Prod.snd (Option.some.inj hq)
          have hc1 := hc.1
          cases hm : sealMay (st.seq : Int) (guessS xs st.used) with
          | false => unfold sealAns at hc1; rw [hm] at hc1; cases hc1
          | true =>
            unfold sealAns at e4
            rw [hm] at e4
            have e5 : recBytes st.prev ((st.seq : Int).toNat) (guessS xs st.used).kind.toNat (guessS xs st.used).data = p.2 := e4
            rw [← e5, recBytes_size, Nat.mul_div_cancel _ (by decide)]
            have := wholes_ge (41 + (guessS xs st.used).data.size)
            omega
        · cases hq
      omega
    · rw [if_neg hq] at h
      cases h

end Go.Proofs.YtmgaegaibglnhaaGreat
namespace Go.Proofs.YtmgaegaibglnhaaGreat
open Go.RowKit
open Go.Lib (strCells strCells_length strCells_oneCell)
attribute [local irreducible] Sha.compress Sha.blocks Sha.sha Sha.pad

/-- The document's journal: on disk x, at sector a, number s, behind the seal p. -/
abbrev RJ (w : World) (j x : Nat) (a s : Int) (p : ByteArray) : Prop := Holds w j 105 [.pointer (some ⟨x, 0, none⟩), .int .i64 a, .int .i64 s, .string p]
theorem joinB_next {xs : List ByteArray} {a i : Nat} {x : ByteArray} (h : xs[a + i]? = some x) : joinB ((xs.drop a).take i) ++ x = joinB ((xs.drop a).take (i + 1)) :=
  bytes_ext (by rw [data_append, joinB_list, joinB_list, readS_next h])

set_option maxRecDepth 100000 in
set_option maxHeartbeats 1000000 in
theorem rBytes_any {B x g1 c1 g2 c2 g3 n : Nat} {now thn : List ByteArray} {fl : List Bool} (at_ k : Nat) (hk : k ≤ 10000) (hat : at_ ≤ 10000) (hk1 : 1 ≤ k) (hx : ∀ s ∈ now, s.size = 64) (j : Nat) (a s : Int) (p : ByteArray) (w : World) (hJ : RJ w j x a s p) (h : RDiskAt w B x g1 c1 g2 c2 g3 n now thn fl) :
    Calls Tryz.prog 157 #[.pointer (some ⟨j, 0, none⟩), .int .i64 (at_ : Int), .int .i64 (k : Int)] w fun e w' => e = .returned (.tuple #[.string (readS now at_ k), .bool (decide (at_ + k ≤ n))]) ∧ w = w' := by
  have c0 := hJ.cK 0 _ rfl
  have hD := hid h
  have hx' := hid hx
  have hlen := hid h.nl
  clear hJ h hx
  go_enter Tryz.func157, Tryz.ntmps157
  go_wp2_with fail
  go_loopw [8, 9] (fun ov ix wr => ∃ i : Nat, i ≤ k ∧ (at_ + i ≤ n ∨ i = 0) ∧ ov = .string (joinB ((now.drop at_).take i)) ∧ ix = .int .i64 (i : Int) ∧ wr = w) (fun _ ix _ => k - (intOf ix).toNat)
  case atStart => exact ⟨0, Nat.zero_le _, .inr rfl, rfl, rfl, rfl⟩
  case round =>
    obtain ⟨i, hi, hin, rfl, rfl, hwr⟩ := hrel
    obtain rfl := hwr.symm
    clear hwr
    obtain ⟨o, ho⟩ : ∃ o, joinB ((now.drop at_).take i) = o := ⟨_, rfl⟩
    have ho' := hid ho
    rw [ho]
    clear ho
    by_cases hlt : i < k
    · have hlt' : (i : Int) < (k : Int) := by omega
      have hsum : IntKind.i64.wrap ((at_ : Int) + (i : Int)) = ((at_ + i : Nat) : Int) := by rw [IntWalk.i64_in _ (by omega)]; omega
      by_cases hn : at_ + i < n
      · obtain ⟨y, hy⟩ : ∃ y, now[at_ + i]? = some y := ⟨_, List.getElem?_eq_getElem (by rw [hlen.out]; exact hn)⟩
        have hrd := hid (rdRead_yes (at_ + i) y hy w hD.out)
        have hy64 : y.size = 64 := hx'.out y (List.mem_of_getElem? hy)
        have hnx := hid (show o ++ y = joinB ((now.drop at_).take (i + 1)) from by rw [← ho'.out]; exact joinB_next hy)
        have hos : o.size ≤ 1000000 := by
          rw [← ho'.out, joinB_size (fun s hs => hx'.out s (List.mem_of_mem_drop (List.mem_of_mem_take hs))), List.length_take]
          omega
        have hsz : ¬ 9223372036854775807 < o.size + y.size := by omega
        have hiw := IntWalk.i64_in ((i : Int) + 1) (by omega)
        have hn' := hid hn
        clear hy hy64 hos hn
        go_wp2_with (go_at_call 27; refine hrd.out.mono ?_; rintro e w' ⟨rfl, rfl⟩)
        go_roundw
        case rel => exact ⟨i + 1, by omega, .inl (by have := hn'.out; omega), by rw [hnx.out], by go_num, trivial⟩
        case measure => simp [intOf]; omega
      · have hrd := hid (rdRead_no ((at_ + i : Nat) : Int) (by omega) w hD.out)
        have hfin := hid (show (⟨#[]⟩ : ByteArray) = readS now at_ k from by
          unfold readS
          rw [if_neg (by rw [hlen.out]; omega)])
        have hno : decide (at_ + k ≤ n) = false := decide_eq_false (by omega)
        have hno := hid hno
        go_wp2_with (go_at_call 27; refine hrd.out.mono ?_; rintro e w' ⟨rfl, rfl⟩)
        go_ret2
        exact ⟨by first | (rw [hno.out, ← hfin.out]; rfl) | (rw [← hfin.out]; rfl), rfl⟩
    · obtain rfl : i = k := by omega
      have hlt' : ¬ (i : Int) < (i : Int) := by omega
      have hin2 : at_ + i ≤ n := by omega
      have hfin := hid (show o = readS now at_ i from by
        unfold readS
        rw [if_pos (by rw [hlen.out]; exact hin2), ← ho'.out])
      have hyes : decide (at_ + i ≤ n) = true := decide_eq_true hin2
      have hyes := hid hyes
      clear hin2
      go_wp2_with fail
      go_ret2
      exact ⟨by first | (rw [hyes.out, ← hfin.out]; rfl) | (rw [← hfin.out]; rfl), rfl⟩

set_option maxRecDepth 100000 in
theorem rUsed_any (j x : Nat) (a s : Int) (p : ByteArray) (w : World) (hJ : RJ w j x a s p) : Calls Tryz.prog 23 #[.pointer (some ⟨j, 0, none⟩)] w fun e w' => e = .returned (.int .i64 a) ∧ w' = w := by
  have c1 := hJ.cK 1 _ rfl
  clear hJ
  go_enter Tryz.func23, Tryz.ntmps23
  go_wp2
  go_ret
  exact ⟨rfl, rfl⟩

theorem rj_not {w : World} {B x g1 c1 g2 c2 g3 n j : Nat} {now thn : List ByteArray} {fl : List Bool} {t : TypeId} {cs : List Value} (h : RDiskAt w B x g1 c1 g2 c2 g3 n now thn fl) (hJ : Holds w j t cs) (h1 : t ≠ 9) (h2 : t ≠ 4) : ¬ RS g1 g2 g3 j := by
  rintro (e | e | e)
  · exact row_holds h.now hJ h1 e
  · exact row_holds h.thn hJ h1 e
  · exact types_apart hJ h.fl_ h2 e
theorem wiped_fine {D : Dk} {n : Nat} (hD : D.fine n) (u : Nat) (hu : u ≤ n) : (D.wiped u).fine n := by
  refine ⟨?_, fun s hs => ?_, OldsOk.nil n⟩
  · show (D.xs.take u ++ List.replicate (D.xs.length - u) (zeroS 64)).length = n
    rw [List.length_append, List.length_take, List.length_replicate, hD.len]
    omega
  · rcases List.mem_append.1 (show s ∈ D.xs.take u ++ List.replicate (D.xs.length - u) (zeroS 64) from hs) with h | h
    · exact hD.secs s (List.mem_of_mem_take h)
    · rw [(List.mem_replicate.1 h).2]
      exact zeroS_size 64
/-- A disk, as far as it was wiped. -/
structure WipeAt (w : World) (B x g1 c1 g2 c2 g3 n : Nat) (xs : List ByteArray) (u i j : Nat) (s : Int) (p : ByteArray) (W : World) : Prop where
  disk : ∃ thn fl, RDiskAt W B x g1 c1 g2 c2 g3 n (wipeTo xs u i) thn fl
  turn : TurnS (RS g1 g2 g3) w W
  rj : RJ W j x (u : Int) s p
set_option maxRecDepth 100000 in
set_option maxHeartbeats 1000000 in
theorem rClear_any {B x g1 c1 g2 c2 g3 n : Nat} {D : Dk} (hD : D.fine n) (u : Nat) (hu : u ≤ n) (j : Nat) (s : Int) (p : ByteArray) (w : World) (hJ : RJ w j x (u : Int) s p) (h : RDisk w B x g1 c1 g2 c2 g3 n D) :
    Calls Tryz.prog 98 #[.pointer (some ⟨j, 0, none⟩)] w fun e w' => e = .returned (.tuple #[]) ∧ RDisk w' B x g1 c1 g2 c2 g3 n (D.wiped u) ∧ TurnS (RS g1 g2 g3) w w' := by
  obtain ⟨z, hz⟩ : ∃ z, zeroS 64 = z := ⟨_, rfl⟩
  have hz64 := hid (show z.size = 64 from by rw [← hz]; exact zeroS_size 64)
  have hz' := hid hz
  obtain ⟨W0, hW0⟩ : ∃ W0, w.alloc (.cells zSc 5) = W0 := ⟨_, rfl⟩
  have hb0 : Below w.heap.size w W0 := by rw [← hW0]; exact (Below.refl _ _).alloc (Nat.le_refl _) _
  have hN0 : Holds W0 w.heap.size 5 zSc.toList := by rw [← hW0]; exact Holds.new _ _ _
  have hcv := hid (run_convert_block (P := Tryz.prog) (w := W0) (s := z) (c := 64) 82 9 Tryz.underlying82 Tryz.underlying5 Tryz.underlying9 hz64.out.symm hN0 (by rw [← hz]; exact zSc_list))
  have hA0 := hid (show WipeAt w B x g1 c1 g2 c2 g3 n D.xs u u j s p W0 from ⟨⟨_, _, by rw [wipe_start]; exact h.on hb0⟩, .of_below hb0, hJ.below hb0 hJ.lt⟩)
  have hW0' := hid hW0
  have hlen := hid hD.len
  have h6 := hid h.most
  have c1' := (hJ.below hb0 hJ.lt).cK 1 _ rfl
  have hend := hid (show ∀ W, RDiskAt W B x g1 c1 g2 c2 g3 n (wipeTo D.xs u n) (wipeTo D.xs u n) (List.replicate n false) → RDisk W B x g1 c1 g2 c2 g3 n (D.wiped u) from fun W hR => by
    have e : wipeTo D.xs u n = (D.wiped u).xs := by rw [← hD.len, wipe_end]; rfl
    rw [e] at hR
    show RDiskAt W B x g1 c1 g2 c2 g3 n (D.wiped u).xs (thnD n (D.wiped u)) (flD n (D.wiped u))
    rw [thnD_clean (wiped_fine hD u hu) rfl, flD_clean rfl]
    exact hR)
  clear hz hW0 hb0 hN0 hJ h hD
  go_enter Tryz.func98, Tryz.ntmps98
  go_wp2_with (first
    | ((with_reducible refine at_slot (some 6) ?_); refine wpList_run rfl (.slice (some ⟨w.heap.size, 0, none⟩) 64 64) (w.alloc (.cells zSc 5)) (by kernel_rfl) ?_; rw [hW0'.out])
    | ((with_reducible refine at_slot (some 7) ?_); refine wpList_convert rfl 82 9 (.tmp 6) rfl _ (.string z) _ rfl (by exact hcv.out) ?_)
    | fail)
  clear hcv hW0' c1'
  go_loopw [3] (fun ix wr => ∃ i : Nat, u ≤ i ∧ i ≤ n ∧ ix = .int .i64 (i : Int) ∧ WipeAt w B x g1 c1 g2 c2 g3 n D.xs u i j s p wr) (fun ix _ => n - (intOf ix).toNat)
  case atStart => exact ⟨u, Nat.le_refl _, hu, rfl, hA0.out⟩
  case round =>
    obtain ⟨i, hui, hin, rfl, hA⟩ := hrel
    obtain ⟨W1, rfl⟩ : ∃ V, V = wr := ⟨_, rfl⟩
    obtain ⟨⟨thn, fl, hR⟩, hT, hJ⟩ := hA
    have hR' := hid hR
    have hT' := hid hT
    have hJ' := hid hJ
    have hnot := hid (rj_not hR hJ (by decide) (by decide))
    have cd := hJ.cK 0 _ rfl
    have hSec := hid (rdSectors_any W1 hR)
    clear hR hT hJ hA0
    by_cases hlt : i < n
    · have hlt' : (i : Int) < (n : Int) := by omega
      have hiw := IntWalk.i64_in ((i : Int) + 1) (by have := h6.out; omega)
      obtain ⟨y, hy⟩ : ∃ y, D.xs[i]? = some y := ⟨_, List.getElem?_eq_getElem (by rw [hlen.out]; exact hlt)⟩
      have hrd := hid (rdRead_yes i y (by rw [wipe_at hui (by rw [hlen.out]; exact hlt)]; exact hy) W1 hR'.out)
      by_cases hyz : y = z
      · subst hyz
        have hsame := hid (show wipeTo D.xs u (i + 1) = wipeTo D.xs u i from wipe_same hui (by rw [hy, hz'.out]))
        clear hy
        go_wp2_with (first
          | (go_at_call 51; refine hSec.out.mono ?_; rintro e w' ⟨rfl, rfl⟩)
          | (go_at_call 27; refine hrd.out.mono ?_; rintro e w' ⟨rfl, rfl⟩)
          | fail)
        go_roundw
        case rel => exact ⟨i + 1, by omega, by omega, by go_num, ⟨⟨thn, fl, by rw [hsame.out]; exact hR'.out⟩, hT'.out, hJ'.out⟩⟩
        case measure => simp [intOf]; omega
      · have hnl := ba_ne hyz
        have hwr := hid (rdWrite_yes i z hlt hz64.out W1 hR'.out)
        have hset := hid (show (wipeTo D.xs u i).set i z = wipeTo D.xs u (i + 1) from by rw [← hz'.out]; exact wipe_set hui (by rw [hlen.out]; exact hlt))
        clear hy hyz
        go_wp2_with (first
          | (go_at_call 51; refine hSec.out.mono ?_; rintro e w' ⟨rfl, rfl⟩)
          | (go_at_call 27; refine hrd.out.mono ?_; rintro e w' ⟨rfl, rfl⟩)
          | (go_at_call 21; refine hwr.out.mono ?_; rintro e W2 ⟨rfl, hR2, hT2⟩; rw [hset.out] at hR2; have hA2 := hid (show WipeAt w B x g1 c1 g2 c2 g3 n D.xs u (i + 1) j s p W2 from ⟨⟨_, _, hR2⟩, hT'.out.trans hT2, hT2.holds hJ'.out hnot.out⟩); clear hR2 hT2)
          | fail)
        go_roundw
        case rel => exact ⟨i + 1, by omega, by omega, by go_num, hA2.out⟩
        case measure => simp [intOf]; omega
    · obtain rfl : i = n := by omega
      have hlt' : ¬ (i : Int) < (i : Int) := by omega
      have hsy := hid (rdSync_any W1 hR'.out)
      go_wp2_with (first
        | (go_at_call 51; refine hSec.out.mono ?_; rintro e w' ⟨rfl, rfl⟩)
        | (go_at_call 17; refine hsy.out.mono ?_; rintro e W2 ⟨rfl, hR2, hT2⟩; have hf2 := hid (hend.out _ hR2); have ht2 := hid (hT'.out.trans hT2); clear hR2 hT2)
        | fail)
      go_end0
      exact ⟨rfl, hf2.out, ht2.out⟩

end Go.Proofs.YtmgaegaibglnhaaGreat
namespace Go.Proofs.YtmgaegaibglnhaaGreat
open Go.RowKit
open Go.Lib (strCells strCells_length strCells_oneCell)
attribute [local irreducible] Sha.compress Sha.blocks Sha.sha Sha.pad

theorem or_low8 (a : Int) (b : UInt8) (h0 : 0 ≤ a) (h1 : a < 16777216) : bits .or .i64 (a * 256) (b.toNat : Int) = 256 * a + (b.toNat : Int) := by
  obtain ⟨n, rfl⟩ : ∃ n : Nat, a = n := ⟨a.toNat, by omega⟩
  have hb := b.toNat_lt
  have e1 : ((n : Int) * 256) = ((n * 256 : Nat) : Int) := by simp
  show IntKind.i64.wrap ((BitVec.ofInt 64 ((n : Int) * 256) ||| BitVec.ofInt 64 (b.toNat : Int)).toNat : Int) = _
  rw [e1, BitVec.ofInt_natCast, BitVec.ofInt_natCast, BitVec.toNat_or, BitVec.toNat_ofNat, BitVec.toNat_ofNat, Nat.mod_eq_of_lt (by omega), Nat.mod_eq_of_lt (by omega)]
  have e2 : n * 256 ||| b.toNat = n * 256 + b.toNat := by
    have := Nat.two_pow_add_eq_or_of_lt (i := 8) (b := b.toNat) (by omega) n
    rw [Nat.mul_comm]
    simpa using this.symm
  rw [e2, IntWalk.i64_in _ (by omega)]
  omega
theorem num_one (s : ByteArray) (p : Nat) (h : p < s.size) : num (s.extract p (p + 1)) = (s[p]'h).toNat := by
  have e : (s.extract p (p + 1)).data.toList = [s[p]'h] := by
    apply List.ext_getElem
    · rw [data_length, ByteArray.size_extract]; simp; omega
    · intro i h1 h2
      have hi : i = 0 := by simpa using h2
      subst hi
      simp [ByteArray.data_extract]
      rfl
  unfold num
  rw [e]
  simp [numL]
theorem num_two (s : ByteArray) (p : Nat) (h : p + 1 < s.size) : num (s.extract p (p + 2)) = (s[p]'(by omega)).toNat * 256 + (s[p + 1]'h).toNat := by
  have e : (s.extract p (p + 2)).data.toList = [s[p]'(by omega), s[p + 1]'h] := by
    apply List.ext_getElem
    · rw [data_length, ByteArray.size_extract]; simp; omega
    · intro i h1 h2
      have hi : i = 0 ∨ i = 1 := by simp at h2; omega
      rcases hi with rfl | rfl
      · simp [ByteArray.data_extract]
        rfl
      · simp [ByteArray.data_extract]
        rfl
  unfold num
  rw [e]
  simp [numL]
  omega
theorem turnS_put {S : Nat → Prop} {a b W : World} {g o : Nat} {vs : List Value} (h : TurnS S a b) (hg : a.heap.size ≤ g) (e : b.setCells g o vs = W) : TurnS S a W := by
  subst e
  have hq := below_setCells (Below.refl g b) g o vs (Nat.le_refl _)
  exact ⟨hq.os.trans h.os, hq.tape.trans h.tape, hq.output.trans h.output, Nat.le_trans h.size hq.size, fun k hk hs => (hq.block k (by omega)).trans (h.block k hk hs)⟩
/-- What next tells, and what it leaves. -/
def NextPost (now : List ByteArray) (st : JSt) (j x : Nat) (w : World) : Ending → World → Prop := fun e w' =>
  (refNext now st = none ∧ e = .returned (.tuple #[.agg (recV rec0).toArray, .bool false]) ∧ Below w.heap.size w w') ∨
    ∃ p, refNext now st = some p ∧ e = .returned (.tuple #[.agg (recV p.1).toArray, .bool true]) ∧ RJ w' j x ((st.pass p.1 p.2).used : Int) ((st.pass p.1 p.2).seq : Int) (txt (st.pass p.1 p.2).prev) ∧ TurnS (fun k => k = j) w w'

set_option maxRecDepth 100000 in
set_option maxHeartbeats 4000000 in
theorem rNext_any {B x g1 c1 g2 c2 g3 n : Nat} {now thn : List ByteArray} {fl : List Bool} (st : JSt) (hp : st.prev.length = 32) (hu : st.used ≤ n) (hs : st.seq ≤ 10000) (hx : ∀ s ∈ now, s.size = 64) (j : Nat) (w : World) (hJ : RJ w j x (st.used : Int) (st.seq : Int) (txt st.prev)) (h : RDiskAt w B x g1 c1 g2 c2 g3 n now thn fl) :
    Calls Tryz.prog 97 #[.pointer (some ⟨j, 0, none⟩)] w (NextPost now st j x w) := by
  obtain ⟨q, hq⟩ : ∃ q, readS now st.used 1 = q := ⟨_, rfl⟩
  obtain ⟨z, hz⟩ : ∃ z, num (q.extract 7 9) = z := ⟨_, rfl⟩
  obtain ⟨k6, hk6⟩ : ∃ k, num (q.extract 6 7) = k := ⟨_, rfl⟩
  obtain ⟨m, hm⟩ : ∃ m, wholes (41 + z) = m := ⟨_, rfl⟩
  obtain ⟨al, hal⟩ : ∃ a, readS now st.used m = a := ⟨_, rfl⟩
  obtain ⟨dt, hdt⟩ : ∃ d, al.extract 9 (9 + z) = d := ⟨_, rfl⟩
  obtain ⟨⟨wt, cd⟩, hans⟩ : ∃ p, sealAns st.prev (st.seq : Int) ⟨(k6 : Int), dt⟩ = p := ⟨_, rfl⟩
  have hz9 : z ≤ 65535 := by rw [← hz]; exact num2_lt q
  have hm9 : m ≤ 1100 ∧ 1 ≤ m := by rw [← hm]; unfold wholes; omega
  have hmz : 41 + z ≤ m * 64 := by rw [← hm]; exact wholes_ge _
  have hnl := h.nl
  have h256 := h.most
  have hN := hid (show refNext now st = if ¬ st.used + 1 ≤ n ∨ q.extract 0 2 ≠ magicT then none else if ¬ st.used + m ≤ n ∨ 1024 < z then none else if cd = 0 ∧ wt = al then some (⟨(k6 : Int), dt⟩, al) else none from by
    unfold refNext
    rw [hq, hz, hk6, hm, hal, hdt, hans, hnl])
  have hBy1 := hid (show ∀ V, RJ V j x (st.used : Int) (st.seq : Int) (txt st.prev) → RDiskAt V B x g1 c1 g2 c2 g3 n now thn fl → Calls Tryz.prog 157 #[.pointer (some ⟨j, 0, none⟩), .int .i64 (st.used : Int), .int .i64 1] V fun e w' => e = .returned (.tuple #[.string q, .bool (decide (st.used + 1 ≤ n))]) ∧ V = w' from fun V a b => by
    rw [← hq]
    exact rBytes_any st.used 1 (by decide) (by omega) (by decide) hx j _ _ _ V a b)
  have hBy2 := hid (show ∀ V, RJ V j x (st.used : Int) (st.seq : Int) (txt st.prev) → RDiskAt V B x g1 c1 g2 c2 g3 n now thn fl → Calls Tryz.prog 157 #[.pointer (some ⟨j, 0, none⟩), .int .i64 (st.used : Int), .int .i64 (m : Int)] V fun e w' => e = .returned (.tuple #[.string al, .bool (decide (st.used + m ≤ n))]) ∧ V = w' from fun V a b => by
    rw [← hal]
    exact rBytes_any st.used m (by omega) (by omega) hm9.2 hx j _ _ _ V a b)
  have hSl := hid (show ∀ V, Calls Tryz.prog 50 #[.string (txt st.prev), .int .i64 (st.seq : Int), .agg (recV ⟨(k6 : Int), dt⟩).toArray] V fun e w' => e = .returned (.tuple #[.string wt, .int .i64 cd]) ∧ Below V.heap.size V w' from fun V => by
    have := rSeal_any st.prev hp (st.seq : Int) ⟨(k6 : Int), dt⟩ V
    rw [hans] at this
    exact this)
  have hq64 := hid (show st.used + 1 ≤ n → q.size = 64 from fun e => by rw [← hq, readS_size hx, if_pos (by omega)])
  have hal64 := hid (show st.used + m ≤ n → al.size = m * 64 from fun e => by rw [← hal, readS_size hx, if_pos (by omega)])
  have hz' := hid hz
  have hk6' := hid hk6
  have hdt' := hid hdt
  have hmz' := hid hmz
  have hm9' := hid hm9
  have hu' := hid hu
  have hs' := hid hs
  have h256' := hid h256
  have hmw := hid hm
  obtain ⟨g, hg⟩ : ∃ g, w.heap.size = g := ⟨_, rfl⟩
  have hg' : Hid (w.heap.size ≤ g) := hid (by omega)
  obtain ⟨W0, hW0⟩ : ∃ V, w.alloc (.cells (recV rec0).toArray 37) = V := ⟨_, rfl⟩
  have hH0 := hid (show Holds W0 g 37 (recV rec0) from by rw [← hW0, ← hg]; exact Holds.new w 37 (recV rec0).toArray)
  have hB0 := hid (show Below w.heap.size w W0 from by rw [← hW0]; exact (Below.refl _ _).alloc (Nat.le_refl _) _)
  have hJ0 := hid (hJ.below hB0.out hJ.lt)
  have hR0 := hid (h.on hB0.out)
  have hjg := hid (show j < w.heap.size from hJ.lt)
  have hW0' := hid hW0
  have hgw := hid hg
  clear hq hz hk6 hm hal hdt hans hmz hm9 hnl h256 hu hs hp hx hJ h hW0 hg
  have cJ := hJ0.out.cK 1 _ rfl
  go_enter Tryz.func97, Tryz.ntmps97
  go_wp2_with (first
    | ((with_reducible refine at_slot (some 2) ?_); refine wpList_run rfl (.pointer (some ⟨g, 0, none⟩)) (w.alloc (.cells (recV rec0).toArray 37)) (by rw [← hgw.out]; kernel_rfl) ?_; rw [hW0'.out])
    | fail)
  clear hW0' hgw cJ
  go_at_call 157
  refine (hBy1.out _ hJ0.out hR0.out).mono ?_
  rintro e w' ⟨rfl, rfl⟩
  by_cases h1 : st.used + 1 ≤ n
  · rw [decide_eq_true h1]
    have q64 := hid (hq64.out h1)
    by_cases h2 : q.extract 0 2 = magicT
    · as_aux_lemma =>
        have h2' : q.extract 0 2 = ⟨#[65, 74]⟩ := h2
        have h2h := hid h2
        clear h2
        have qz : (2 : Int) ≤ (q.size : Int) := by have := q64.out; omega
        go_wp2_with fail
        clear h2'
        obtain ⟨b6, hb6⟩ : ∃ d, q[6]'(by have := q64.out; omega) = d := ⟨_, rfl⟩
        obtain ⟨b7, hb7⟩ : ∃ d, q[7]'(by have := q64.out; omega) = d := ⟨_, rfl⟩
        obtain ⟨b8, hb8⟩ : ∃ d, q[8]'(by have := q64.out; omega) = d := ⟨_, rfl⟩
        have l6 : (6 : Int) < (q.size : Int) := by have := q64.out; omega
        have l7 : (7 : Int) < (q.size : Int) := by have := q64.out; omega
        have l8 : (8 : Int) < (q.size : Int) := by have := q64.out; omega
        have u6 := IntWalk.i64_in (b6.toNat : Int) (by have := b6.toNat_lt; omega)
        have u7 := IntWalk.i64_in (b7.toNat : Int) (by have := b7.toNat_lt; omega)
        have u8 := IntWalk.i64_in (b8.toNat : Int) (by have := b8.toNat_lt; omega)
        have hshl := IntWalk.i64_in ((b7.toNat : Int) * 256) (by have := b7.toNat_lt; omega)
        have hor : bits .or .i64 ((b7.toNat : Int) * 256) (b8.toNat : Int) = (z : Int) := by
          rw [or_low8 _ _ (by omega) (by have := b7.toNat_lt; omega), ← hz'.out, num_two q 7 (by have := q64.out; omega), hb7, hb8]
          omega
        have h6z := hid (show (b6.toNat : Int) = (k6 : Int) from by rw [← hk6'.out, num_one q 6 (by have := q64.out; omega), hb6])
        have hb : Below W0.heap.size W0 W0.drew := (Below.refl _ _).drew
        have hH1 := hid (hH0.out.below hb hH0.out.lt)
        have hJ1 := hid (hJ0.out.below hb hJ0.out.lt)
        have hR1 := hid (hR0.out.on hb)
        have hB1 := hid (bup hb hB0.out)
        clear hb hH0 hJ0 hR0 hB0
        refine wp_region_held_drew (S := fun _ => True) (by kernel_rfl) (by exact trivial) (fun hHeld => ?_)
        generalize W0.drew = W1 at *
        refine tkn 0 (.string q) rfl (by kernel_rfl) (fun _ _ _ h => h) (yieldsIf_move _ rfl rfl rfl) hHeld ?_
        simp only [ly, Act.put]
        refine tkn 1 (.int .u8 (b7.toNat : Int)) rfl (by kernel_rfl) (fun _ _ _ h => h) (.inl ⟨by kernel_rfl, fun w _ => by go_simp⟩) hHeld ?_
        simp only [ly, Act.put]
        refine tkn 2 (.int .i64 (b7.toNat : Int)) rfl (by kernel_rfl) (fun _ _ _ h => h) (.inl ⟨by kernel_rfl, fun w _ => by go_simp⟩) hHeld ?_
        simp only [ly, Act.put]
        refine tkn 3 (.int .i64 ((b7.toNat : Int) * 256)) rfl (by kernel_rfl) (fun _ _ _ h => h) (.inl ⟨by kernel_rfl, fun w _ => by go_simp⟩) hHeld ?_
        simp only [ly, Act.put]
        refine tkn 4 (.string q) rfl (by kernel_rfl) (fun _ _ _ h => h) (yieldsIf_move _ rfl rfl rfl) hHeld ?_
        simp only [ly, Act.put]
        refine tkn 5 (.int .u8 (b8.toNat : Int)) rfl (by kernel_rfl) (fun _ _ _ h => h) (.inl ⟨by kernel_rfl, fun w _ => by go_simp⟩) hHeld ?_
        simp only [ly, Act.put]
        refine tkn 6 (.int .i64 (b8.toNat : Int)) rfl (by kernel_rfl) (fun _ _ _ h => h) (.inl ⟨by kernel_rfl, fun w _ => by go_simp⟩) hHeld ?_
        simp only [ly, Act.put]
        refine tkn 7 (.int .i64 (z : Int)) rfl (by kernel_rfl) (fun _ _ _ h => h) (.inl ⟨by kernel_rfl, fun w _ => by go_simp⟩) hHeld ?_
        simp only [ly, Act.put]
        refine tkn 8 (.int .i64 (z : Int)) rfl (by kernel_rfl) (fun _ _ _ h => h) (yieldsIf_assign _ rfl rfl rfl) hHeld ?_
        simp only [ly, Act.put]
        refine wpAnyH_done (by kernel_rfl) ?_ _
        clear hor hshl u7 u8 hb7 hb8 l7 l8
        obtain ⟨a1, ha1⟩ : ∃ a, 9 + z = a := ⟨_, rfl⟩
        obtain ⟨a2, ha2⟩ : ∃ a, a1 + 32 = a := ⟨_, rfl⟩
        obtain ⟨a3, ha3⟩ : ∃ a, a2 + 64 = a := ⟨_, rfl⟩
        obtain ⟨a4, ha4⟩ : ∃ a, a3 - 1 = a := ⟨_, rfl⟩
        have z9 : z ≤ 65535 := by rw [← hz'.out]; exact num2_lt q
        have w1 : IntKind.i64.wrap (9 + (z : Int)) = (a1 : Int) := by rw [IntWalk.i64_in _ (by omega)]; omega
        have w2 : IntKind.i64.wrap ((a1 : Int) + 32) = (a2 : Int) := by rw [IntWalk.i64_in _ (by omega)]; omega
        have w3 : IntKind.i64.wrap ((a2 : Int) + 64) = (a3 : Int) := by rw [IntWalk.i64_in _ (by omega)]; omega
        have w4 : IntKind.i64.wrap ((a3 : Int) - 1) = (a4 : Int) := by rw [IntWalk.i64_in _ (by omega)]; omega
        have wm : (a4 : Int) / 64 = (m : Int) := by rw [← hmw.out]; unfold wholes; omega
        have wm2 := IntWalk.i64_in (m : Int) (by have := hm9'.out; omega)
        have a1' := hid ha1
        have z9' := hid z9
        clear ha1 ha2 ha3 ha4 z9
        have c1 := hJ1.out.cK 1 _ rfl
        go_wp2_with fail
        clear c1
        go_at_call 157
        refine (hBy2.out _ hJ1.out hR1.out).mono ?_
        rintro e w' ⟨rfl, rfl⟩
        clear w2 w3 w4 wm wm2
        by_cases h3 : st.used + m ≤ n
        · rw [decide_eq_true h3]
          by_cases h4 : 1024 < z
          · as_aux_lemma =>
              have hno := hid (show refNext now st = none from by rw [hN.out, if_neg (fun e => e.elim (fun a => a h1) (fun a => a h2h.out)), if_pos (.inr h4)])
              have h4' : (1024 : Int) < (z : Int) := by omega
              clear h4
              go_wp2_with (first
                | ((with_reducible refine at_slot none ?_); refine wpList_store_mid rfl 37 (.tmp 2) (.tmp 60) rfl g 0 (recV rec0).toArray rfl rfl (by exact hH1.out.there 0 _ (Nat.le_refl _)) (by exact recSize rec0) (by exact recOne rec0) ?_; generalize hW : World.setCells _ _ _ _ = W2; have hh := rec_put hH1.out hB1.out hg'.out hW; have hH2 := hid hh.1; have hB2 := hid hh.2; clear hh hW hH1 hB1)
                | fail)
              go_wp2_with fail
              exact bodyPost_ret (results_ct rfl _ _ g 37 _ (0, 0) _ rfl hH2.out (.bool false) rfl Tryz.underlying37 rfl (by exact recSize _)) rfl (.inl ⟨hno.out, rfl, hB2.out⟩)
          · have h4' : ¬ (1024 : Int) < (z : Int) := by omega
            have h4n := hid h4
            have al64 := hid (hal64.out h3)
            have hN3 := hid (show refNext now st = if cd = 0 ∧ wt = al then some (⟨(k6 : Int), dt⟩, al) else none from by rw [hN.out, if_neg (fun e => e.elim (fun a => a h1) (fun a => a h2h.out)), if_neg (fun e => e.elim (fun a => a h3) (fun a => h4n.out a))])
            have la : (a1 : Int) ≤ (al.size : Int) := by have h1 := al64.out; have h2 := hmz'.out; have h3 := a1'.out; omega
            have la9 : (9 : Int) ≤ (a1 : Int) := by have := a1'.out; omega
            have hsl : al.extract 9 a1 = dt := by rw [← a1'.out]; exact hdt'.out
            go_wp2_with fail
            have hb : Below W1.heap.size W1 W1.drew := (Below.refl _ _).drew
            have hH2 := hid (hH1.out.below hb hH1.out.lt)
            have hJ2 := hid (hJ1.out.below hb hJ1.out.lt)
            have hR2 := hid (hR1.out.on hb)
            have hB2 := hid (bup hb hB1.out)
            clear hb hH1 hJ1 hR1 hB1
            refine wp_region_held_drew (S := fun _ => True) (by kernel_rfl) (by exact trivial) (fun hHeld => ?_)
            generalize W1.drew = W2 at *
            refine tkn 0 (.string q) rfl (by kernel_rfl) (fun _ _ _ h => h) (yieldsIf_move _ rfl rfl rfl) hHeld ?_
            simp only [ly, Act.put]
            refine tkn 1 (.int .u8 (b6.toNat : Int)) rfl (by kernel_rfl) (fun _ _ _ h => h) (.inl ⟨by kernel_rfl, fun w _ => by go_simp⟩) hHeld ?_
            simp only [ly, Act.put]
            refine tkn 2 (.int .i64 (b6.toNat : Int)) rfl (by kernel_rfl) (fun _ _ _ h => h) (.inl ⟨by kernel_rfl, fun w _ => by go_simp⟩) hHeld ?_
            simp only [ly, Act.put]
            refine tkn 3 (.string al) rfl (by kernel_rfl) (fun _ _ _ h => h) (yieldsIf_move _ rfl rfl rfl) hHeld ?_
            simp only [ly, Act.put]
            refine tkn 4 (.int .i64 (z : Int)) rfl (by kernel_rfl) (fun _ _ _ h => h) (yieldsIf_move _ rfl rfl rfl) hHeld ?_
            simp only [ly, Act.put]
            refine tkn 5 (.int .i64 (a1 : Int)) rfl (by kernel_rfl) (fun _ _ _ h => h) (.inl ⟨by kernel_rfl, fun w _ => by go_simp⟩) hHeld ?_
            simp only [ly, Act.put]
            refine tkn 6 (.string dt) rfl (by kernel_rfl) (fun _ _ _ h => h) (.inl ⟨by kernel_rfl, fun w _ => by go_simp⟩) hHeld ?_
            simp only [ly, Act.put]
            refine tkn 7 (.agg (recV ⟨(k6 : Int), dt⟩).toArray) rfl (by kernel_rfl) (fun _ _ _ h => h) (.inl ⟨by kernel_rfl, fun w _ => by have := h6z.out; go_simp; rfl⟩) hHeld ?_
            simp only [ly, Act.put]
            refine wpAnyH_ready (rs := [8]) (by kernel_rfl) (by simp) (AllReadyH.cons rfl (fun K hK => ?_) AllReadyH.nil)
            have hK' := hid hK
            clear hK
            rw [if_pos (by kernel_rfl)]
            simp only [ly1, ly2, ly3]
            refine wp_run' (.pointer (some ⟨W2.heap.size, 0, none⟩)) (W2.alloc (.cells (recV rec0).toArray 37)) (by kernel_rfl) ?_
            obtain ⟨gr, hgr⟩ : ∃ g, W2.heap.size = g := ⟨_, rfl⟩
            generalize hA : World.alloc _ _ = WA
            have hA' := hid hA
            have hgr' := hid hgr
            rw [hgr]
            clear hA hgr
            refine hK'.out _ _ (by exact trivial) (fun hHeld => ?_)
            clear hK' K
            refine wpAnyH_ready (rs := [9]) (by kernel_rfl) (by simp) (AllReadyH.cons rfl (fun K hK => ?_) AllReadyH.nil)
            have hK' := hid hK
            clear hK
            rw [if_pos (by kernel_rfl)]
            simp only [ly1, ly2, ly3]
            refine wp_store_mid _ _ _ rfl gr 0 (recV ⟨(k6 : Int), dt⟩).toArray rfl rfl (by rw [← hA'.out]; exact rec_there hgr'.out _) (by exact recSize _) (by exact recOne _) ?_
            generalize hW : World.setCells _ _ _ _ = W3
            rw [← hA'.out] at hW
            obtain ⟨hN1, hb⟩ := rec_new hgr'.out hW
            clear hW hA'
            have hgl := hid (show g < gr from by have := hH2.out.lt; have := hgr'.out; omega)
            have hH3 := hid (hH2.out.below hb hH2.out.lt)
            have hJ3 := hid (hJ2.out.below hb hJ2.out.lt)
            have hR3 := hid (hR2.out.on hb)
            have hB3 := hid (bup hb hB2.out)
            have hZ3 := hid hN1
            clear hb hH2 hJ2 hR2 hB2 hN1
            clear hgr'
            refine hK'.out _ _ (by exact trivial) (fun hHeld => ?_)
            clear hK' K
            refine wpAnyH_done (by kernel_rfl) ?_ _
            go_wp2_with fail
            have hb : Below W3.heap.size W3 W3.drew := (Below.refl _ _).drew
            have hH4 := hid (hH3.out.below hb hH3.out.lt)
            have hJ4 := hid (hJ3.out.below hb hJ3.out.lt)
            have hR4 := hid (hR3.out.on hb)
            have hB4 := hid (bup hb hB3.out)
            have hZ4 := hid (hZ3.out.below hb hZ3.out.lt)
            clear hb hH3 hJ3 hR3 hB3 hZ3
            refine wp_region_held_drew (S := fun V => RJ V j x (st.used : Int) (st.seq : Int) (txt st.prev) ∧ Holds V gr 37 (recV ⟨(k6 : Int), dt⟩)) (by kernel_rfl) (by exact ⟨hJ4.out, hZ4.out⟩) (fun hHeld => ?_)
            generalize W3.drew = W4 at *
            refine tkn 0 (.pointer (some ⟨j, 0, none⟩)) rfl (by kernel_rfl) (fun _ _ _ h => h) (yieldsIf_move _ rfl rfl rfl) hHeld ?_
            simp only [ly, Act.put]
            refine tkn 1 (.pointer (some ⟨j, 0, none⟩)) rfl (by kernel_rfl) (fun _ _ _ h => h) (.inl ⟨by kernel_rfl, fun w _ => by go_simp⟩) hHeld ?_
            simp only [ly, Act.put]
            refine tkn 2 (.pointer (some ⟨j, 3, none⟩)) rfl (by kernel_rfl) (fun _ _ _ h => h) (.inl ⟨by kernel_rfl, fun w _ => by go_simp⟩) hHeld ?_
            simp only [ly, Act.put]
            refine tkn 3 (.string (txt st.prev)) rfl (by kernel_rfl) (fun _ _ _ h => h) (.inl ⟨by kernel_rfl, fun V hS => by have c3 := hS.1.cK 3 _ rfl; go_simp⟩) hHeld ?_
            simp only [ly, Act.put]
            refine tkn 4 (.pointer (some ⟨j, 0, none⟩)) rfl (by kernel_rfl) (fun _ _ _ h => h) (yieldsIf_move _ rfl rfl rfl) hHeld ?_
            simp only [ly, Act.put]
            refine tkn 5 (.pointer (some ⟨j, 0, none⟩)) rfl (by kernel_rfl) (fun _ _ _ h => h) (.inl ⟨by kernel_rfl, fun w _ => by go_simp⟩) hHeld ?_
            simp only [ly, Act.put]
            refine tkn 6 (.pointer (some ⟨j, 2, none⟩)) rfl (by kernel_rfl) (fun _ _ _ h => h) (.inl ⟨by kernel_rfl, fun w _ => by go_simp⟩) hHeld ?_
            simp only [ly, Act.put]
            refine tkn 7 (.int .i64 (st.seq : Int)) rfl (by kernel_rfl) (fun _ _ _ h => h) (.inl ⟨by kernel_rfl, fun V hS => by have c2 := hS.1.cK 2 _ rfl; go_simp⟩) hHeld ?_
            simp only [ly, Act.put]
            refine tkn 8 (.agg (recV ⟨(k6 : Int), dt⟩).toArray) rfl (by kernel_rfl) (fun _ _ _ h => h) (yieldsIf_load_mid (by kernel_rfl) _ _ rfl _ _ rfl _ _ (fun V hS => h_all hS.2) Tryz.underlying37 rfl (by exact recSizeL _)) hHeld ?_
            simp only [ly, Act.put]
            refine wpAnyH_ready (rs := [9]) (by kernel_rfl) (by simp) (AllReadyH.cons rfl (fun K hK => ?_) AllReadyH.nil)
            have hK' := hid hK
            clear hK
            rw [if_pos (by kernel_rfl)]
            simp only [ly1, ly2, ly3]
            go_simp
            refine (hSl.out _).mono ?_
            rintro e W5 ⟨rfl, hb⟩
            have hH5 := hid (hH4.out.below hb hH4.out.lt)
            have hJ5 := hid (hJ4.out.below hb hJ4.out.lt)
            have hR5 := hid (hR4.out.on hb)
            have hB5 := hid (bup hb hB4.out)
            have hZ5 := hid (hZ4.out.below hb hZ4.out.lt)
            clear hb hH4 hJ4 hR4 hB4 hZ4
            refine hK'.out _ _ (by exact ⟨hJ5.out, hZ5.out⟩) (fun hHeld => ?_)
            clear hK' K
            refine tkn 10 (.tuple #[.string wt, .int .i64 cd]) rfl (by kernel_rfl) (fun _ _ _ h => h) (yieldsIf_move _ rfl rfl rfl) hHeld ?_
            simp only [ly, Act.put]
            refine tkn 11 (.string wt) rfl (by kernel_rfl) (fun _ _ _ h => h) (.inl ⟨by kernel_rfl, fun w _ => by go_simp⟩) hHeld ?_
            simp only [ly, Act.put]
            refine tkn 12 (.int .i64 cd) rfl (by kernel_rfl) (fun _ _ _ h => h) (.inl ⟨by kernel_rfl, fun w _ => by go_simp⟩) hHeld ?_
            simp only [ly, Act.put]
            refine tkn 13 (.string wt) rfl (by kernel_rfl) (fun _ _ _ h => h) (yieldsIf_assign _ rfl rfl rfl) hHeld ?_
            simp only [ly, Act.put]
            refine tkn 14 (.int .i64 cd) rfl (by kernel_rfl) (fun _ _ _ h => h) (yieldsIf_assign _ rfl rfl rfl) hHeld ?_
            simp only [ly, Act.put]
            refine wpAnyH_done (by kernel_rfl) ?_ _
            by_cases hcd : cd = 0
            · subst hcd
              by_cases hwt : wt = al
              · as_aux_lemma =>
                  have hyes := hid (show refNext now st = some (⟨(k6 : Int), dt⟩, al) from by rw [hN3.out, if_pos ⟨rfl, hwt⟩])
                  have hds : dt.size = z := by rw [← hsl, ByteArray.size_extract]; have h1 := al64.out; have h2 := hmz'.out; have h3 := a1'.out; omega
                  obtain ⟨U1, hU1⟩ : ∃ u, st.used + m = u := ⟨_, rfl⟩
                  obtain ⟨S1, hS1⟩ : ∃ s, st.seq + 1 = s := ⟨_, rfl⟩
                  obtain ⟨a5, ha5⟩ : ∃ a, 41 + z = a := ⟨_, rfl⟩
                  obtain ⟨pv, hpv⟩ : ∃ p, (al.data.toList.drop (9 + z)).take 32 = p := ⟨_, rfl⟩
                  have hps : st.pass ⟨(k6 : Int), dt⟩ al = ⟨pv, S1, U1⟩ := by
                    unfold JSt.pass
                    rw [show (⟨(k6 : Int), dt⟩ : Rec).data.size = z from hds, hpv, hS1, al64.out, Nat.mul_div_cancel _ (by decide : 0 < 64), hU1]
                  have hpx : al.extract a1 a5 = txt pv := bytes_ext (by rw [ext_cut, txt_list, ← hpv, ← a1'.out, ← ha5]; congr 1; omega)
                  have v1 : IntKind.i64.wrap ((st.used : Int) + (m : Int)) = (U1 : Int) := by rw [IntWalk.i64_in _ (by have := hm9'.out; have := hu'.out; have := h256'.out; omega)]; omega
                  have v2 : IntKind.i64.wrap ((st.seq : Int) + 1) = (S1 : Int) := by rw [IntWalk.i64_in _ (by have := hs'.out; omega)]; omega
                  have v3 : IntKind.i64.wrap (41 + (z : Int)) = (a5 : Int) := by rw [IntWalk.i64_in _ (by have := z9'.out; omega)]; omega
                  have l1 : (a5 : Int) ≤ (al.size : Int) := by have h1 := al64.out; have h2 := hmz'.out; omega
                  have l2 : (a1 : Int) ≤ (a5 : Int) := by have := a1'.out; omega
                  have l0 : (0 : Int) ≤ (a1 : Int) := by omega
                  have hps' := hid hps
                  clear hps hpv hU1 hS1 ha5 hds
                  have c1 := hJ5.out.cK 1 _ rfl
                  have c2 := hJ5.out.cK 2 _ rfl
                  have c3 := hJ5.out.cK 3 _ rfl
                  have f1 := hJ5.out.frozen 1
                  have f2 := hJ5.out.frozen 2
                  have f3 := hJ5.out.frozen 3
                  obtain ⟨W90, hW90⟩ : ∃ V, ((W5.setCell ⟨j, 1, none⟩ (.int .i64 (U1 : Int))).setCell ⟨j, 3, none⟩ (.string (txt pv))).setCell ⟨j, 2, none⟩ (.int .i64 (S1 : Int)) = V := ⟨_, rfl⟩
                  have hj9 := hid (show j ≠ g ∧ j ≠ gr from by have h1 := hjg.out; have h2 := hg'.out; have h3 := hgl.out; omega)
                  have hJ90 := hid (show RJ W90 j x (U1 : Int) (S1 : Int) (txt pv) from by rw [← hW90]; exact ((hJ5.out.set 1 _).set 3 _).set 2 _)
                  have hH90 := hid (show Holds W90 g 37 (recV rec0) from by rw [← hW90]; exact ((hH5.out.far ⟨j, 1, none⟩ (Ne.symm hj9.out.1) _).far ⟨j, 3, none⟩ (Ne.symm hj9.out.1) _).far ⟨j, 2, none⟩ (Ne.symm hj9.out.1) _)
                  have hZ90 := hid (show Holds W90 gr 37 (recV ⟨(k6 : Int), dt⟩) from by rw [← hW90]; exact ((hZ5.out.far ⟨j, 1, none⟩ (Ne.symm hj9.out.2) _).far ⟨j, 3, none⟩ (Ne.symm hj9.out.2) _).far ⟨j, 2, none⟩ (Ne.symm hj9.out.2) _)
                  have hT90 := hid (show TurnS (fun k => k = j) w W90 from by have h0 : TurnS (fun k => k = j) w W5 := .of_below hB5.out; rw [← hW90]; exact ((h0.cell ⟨j, 1, none⟩ rfl _).cell ⟨j, 3, none⟩ rfl _).cell ⟨j, 2, none⟩ rfl _)
                  have hW90' := hid hW90
                  clear hW90 hJ5 hH5 hZ5 hB5 hR5
                  go_wp2_with (first
                    | ((with_reducible refine at_slot (some 115) ?_); rw [hW90'.out]; refine wpList_load_mid rfl 37 (.tmp 10) rfl gr 0 rfl (recV ⟨(k6 : Int), dt⟩) _ (by exact h_all hZ90.out) Tryz.underlying37 rfl (by exact recSizeL _) ?_)
                    | ((with_reducible refine at_slot none ?_); refine wpList_store_mid rfl 37 (.tmp 2) (.tmp 115) rfl g 0 (recV ⟨(k6 : Int), dt⟩).toArray rfl rfl (by exact hH90.out.there 0 _ (show 0 + 2 ≤ 2 from Nat.le_refl 2)) (by exact recSize _) (by exact recOne _) ?_; generalize hW : World.setCells _ _ _ _ = W91; have hH91 := hid (Holds.over (cs := (recV ⟨(k6 : Int), dt⟩)) hH90.out rfl hW); have hJ91 := hid (holds_far hJ90.out hj9.out.1 hW); have hT91 := hid (turnS_put hT90.out hg'.out hW); clear hW)
                    | fail)
                  go_wp2_with fail
                  exact bodyPost_ret (results_ct rfl _ _ g 37 _ (0, 0) _ rfl hH91.out (.bool true) rfl Tryz.underlying37 rfl (by exact recSize _)) rfl (.inr ⟨_, hyes.out, rfl, by show RJ _ j x ((st.pass ⟨(k6 : Int), dt⟩ al).used : Int) ((st.pass ⟨(k6 : Int), dt⟩ al).seq : Int) (txt (st.pass ⟨(k6 : Int), dt⟩ al).prev); rw [hps'.out]; exact hJ91.out, hT91.out⟩)
              · as_aux_lemma =>
                  have hno := hid (show refNext now st = none from by rw [hN3.out, if_neg (fun e => hwt e.2)])
                  have hnl := ba_ne hwt
                  clear hwt
                  go_wp2_with (first
                    | ((with_reducible refine at_slot none ?_); refine wpList_store_mid rfl 37 (.tmp 2) (.tmp 89) rfl g 0 (recV rec0).toArray rfl rfl (by exact hH5.out.there 0 _ (Nat.le_refl _)) (by exact recSize rec0) (by exact recOne rec0) ?_; generalize hW : World.setCells _ _ _ _ = W6; have hh := rec_put hH5.out hB5.out hg'.out hW; have hH6 := hid hh.1; have hB6 := hid hh.2; clear hh hW hH5 hB5)
                    | fail)
                  go_wp2_with fail
                  exact bodyPost_ret (results_ct rfl _ _ g 37 _ (0, 0) _ rfl hH6.out (.bool false) rfl Tryz.underlying37 rfl (by exact recSize _)) rfl (.inl ⟨hno.out, rfl, hB6.out⟩)
            · as_aux_lemma =>
                have hno := hid (show refNext now st = none from by rw [hN3.out, if_neg (fun e => hcd e.1)])
                go_wp2_with (first
                  | ((with_reducible refine at_slot none ?_); refine wpList_store_mid rfl 37 (.tmp 2) (.tmp 89) rfl g 0 (recV rec0).toArray rfl rfl (by exact hH5.out.there 0 _ (Nat.le_refl _)) (by exact recSize rec0) (by exact recOne rec0) ?_; generalize hW : World.setCells _ _ _ _ = W6; have hh := rec_put hH5.out hB5.out hg'.out hW; have hH6 := hid hh.1; have hB6 := hid hh.2; clear hh hW hH5 hB5)
                  | fail)
                go_wp2_with fail
                exact bodyPost_ret (results_ct rfl _ _ g 37 _ (0, 0) _ rfl hH6.out (.bool false) rfl Tryz.underlying37 rfl (by exact recSize _)) rfl (.inl ⟨hno.out, rfl, hB6.out⟩)
        · as_aux_lemma =>
            rw [decide_eq_false h3]
            have hno := hid (show refNext now st = none from by rw [hN.out, if_neg (fun e => e.elim (fun a => a h1) (fun a => a h2h.out)), if_pos (.inl h3)])
            go_wp2_with (first
              | ((with_reducible refine at_slot none ?_); refine wpList_store_mid rfl 37 (.tmp 2) (.tmp 60) rfl g 0 (recV rec0).toArray rfl rfl (by exact hH1.out.there 0 _ (Nat.le_refl _)) (by exact recSize rec0) (by exact recOne rec0) ?_; generalize hW : World.setCells _ _ _ _ = W2; have hh := rec_put hH1.out hB1.out hg'.out hW; have hH2 := hid hh.1; have hB2 := hid hh.2; clear hh hW hH1 hB1)
              | fail)
            go_wp2_with fail
            exact bodyPost_ret (results_ct rfl _ _ g 37 _ (0, 0) _ rfl hH2.out (.bool false) rfl Tryz.underlying37 rfl (by exact recSize _)) rfl (.inl ⟨hno.out, rfl, hB2.out⟩)
    · as_aux_lemma =>
        have hno := hid (show refNext now st = none from by rw [hN.out, if_pos (.inr h2)])
        have hnl : ((q.extract 0 2).toList == [65, 74]) = false := by have h := ba_ne h2; rw [Lib.toList_data magicT] at h; exact h
        have qz : (2 : Int) ≤ (q.size : Int) := by have := q64.out; omega
        clear h2
        go_wp2_with (first
          | ((with_reducible refine at_slot none ?_); refine wpList_store_mid rfl 37 (.tmp 2) (.tmp 29) rfl g 0 (recV rec0).toArray rfl rfl (by exact hH0.out.there 0 _ (Nat.le_refl _)) (by exact recSize rec0) (by exact recOne rec0) ?_; generalize hW : World.setCells _ _ _ _ = W1; have hh := rec_put hH0.out hB0.out hg'.out hW; have hH1 := hid hh.1; have hB1 := hid hh.2; clear hh hW hH0 hB0)
          | fail)
        go_wp2_with fail
        exact bodyPost_ret (results_ct rfl _ _ g 37 _ (0, 0) _ rfl hH1.out (.bool false) rfl Tryz.underlying37 rfl (by exact recSize _)) rfl (.inl ⟨hno.out, rfl, hB1.out⟩)
  · as_aux_lemma =>
      rw [decide_eq_false h1]
      have hno := hid (show refNext now st = none from by rw [hN.out, if_pos (.inl h1)])
      go_wp2_with (first
        | ((with_reducible refine at_slot none ?_); refine wpList_store_mid rfl 37 (.tmp 2) (.tmp 29) rfl g 0 (recV rec0).toArray rfl rfl (by exact hH0.out.there 0 _ (Nat.le_refl _)) (by exact recSize rec0) (by exact recOne rec0) ?_; generalize hW : World.setCells _ _ _ _ = W1; have hh := rec_put hH0.out hB0.out hg'.out hW; have hH1 := hid hh.1; have hB1 := hid hh.2; clear hh hW hH0 hB0)
        | fail)
      go_wp2_with fail
      exact bodyPost_ret (results_ct rfl _ _ g 37 _ (0, 0) _ rfl hH1.out (.bool false) rfl Tryz.underlying37 rfl (by exact recSize _)) rfl (.inl ⟨hno.out, rfl, hB1.out⟩)

end Go.Proofs.YtmgaegaibglnhaaGreat
namespace Go.Proofs.YtmgaegaibglnhaaGreat
open Go.RowKit
open Go.Lib (strCells strCells_length strCells_oneCell)
attribute [local irreducible] Sha.compress Sha.blocks Sha.sha Sha.pad

theorem RDiskAt.under {w w' : World} {B x g1 c1 g2 c2 g3 n m : Nat} {now thn : List ByteArray} {fl : List Bool} (h : RDiskAt w B x g1 c1 g2 c2 g3 n now thn fl) (hb : Below m w w') (hm : x < m ∧ g1 < m ∧ g2 < m ∧ g3 < m) : RDiskAt w' B x g1 c1 g2 c2 g3 n now thn fl :=
  h.kept fun k hk => hb.block k (by rcases hk with e | e | e | e <;> subst e <;> omega)
theorem row_turnS {w w' : World} {n0 n sz : Nat} {e : TypeId} {v : Value} {xs : List Value} {S : Nat → Prop} (h : w.ownsRow n0 e sz v n xs) (hT : TurnS S w w') (hS : ∀ k, S k → k < n0) : w'.ownsRow n0 e sz v n xs :=
  rows_of_blocks h fun k hk => hT.block k (h.lt k hk).2 (fun hs => by have h1 := hS k hs; have h2 := (h.lt k hk).1; omega)
/-- A record that stands, with its bytes. -/
theorem stood_rb {xs : List ByteArray} {st : JSt} {p : Rec × ByteArray} (hx : ∀ s ∈ xs, s.size = 64) (h : nextS xs st = some p) : 41 + p.1.data.size ≤ p.2.size ∧ p.2.size ≤ 10000 := by
  obtain ⟨h1, h2, h3, h4, h5⟩ := nextS_some h hx
  obtain ⟨-, -, -, -, h6⟩ := sealMay_iff.1 h2
  rw [h3, recBytes_size]
  have := wholes_ge (41 + p.1.data.size)
  have := wholes_lt (41 + p.1.data.size)
  omega
theorem stand_bound {xs : List ByteArray} {l : Stood} {st : JSt} (hx : ∀ s ∈ xs, s.size = 64) (h : stand xs JSt.start (bare l) = some st) : st.prev.length = 32 ∧ st.seq = l.length ∧ st.used ≤ xs.length ∧ l.length ≤ st.used := by
  have h1 := stand_over h
  have h2 := over_fine l
  rw [← h1] at h2
  have h3 := stand_used hx h (Nat.zero_le _)
  have h4 := stand_seq h
  have h5 : JSt.start.seq = 0 := rfl
  have h6 : JSt.start.used = 0 := rfl
  exact ⟨h2.1, h2.2.1, h3, by omega⟩
/-- How many things a slice has. -/
def slLen : Value → Nat
  | .slice _ k _ => k
  | _ => 0

set_option maxRecDepth 100000 in
set_option maxHeartbeats 2000000 in
theorem rOpen_any {B x g1 c1 g2 c2 g3 n : Nat} {D : Dk} (hD : D.fine n) (w : World) (h : RDisk w B x g1 c1 g2 c2 g3 n D) :
    Calls Tryz.prog 46 #[.pointer (some ⟨x, 0, none⟩)] w fun e w' => ∃ (j : Nat) (A : Option Addr) (c : Nat) (l : Stood) (st : JSt), stand D.xs JSt.start (bare l) = some st ∧ nextS D.xs st = none ∧ e = .returned (.tuple #[.pointer (some ⟨j, 0, none⟩), .slice A l.length c]) ∧ RJ w' j x (st.used : Int) (st.seq : Int) (txt st.prev) ∧
      w'.ownsRow w.heap.size 37 2 (.slice A l.length c) l.length (recsV l) ∧ RDisk w' B x g1 c1 g2 c2 g3 n (D.wiped st.used) ∧ TurnS (RS g1 g2 g3) w w' ∧ w.heap.size ≤ j := by
  obtain ⟨zt, hzt⟩ : ∃ z, txt (List.replicate 32 0) = z := ⟨_, rfl⟩
  obtain ⟨W1, hW1⟩ : ∃ W, w.alloc (.cells z32 5) = W := ⟨_, rfl⟩
  have hN1 : Holds W1 w.heap.size 5 z32.toList := by rw [← hW1]; exact Holds.new _ _ _
  have hb1 : Below w.heap.size w W1 := by rw [← hW1]; exact (Below.refl _ _).alloc (Nat.le_refl _) _
  have hcv := hid (run_convert_block (P := Tryz.prog) (w := W1) (s := zt) (c := 32) (n := 32) 82 9 Tryz.underlying82 Tryz.underlying5 Tryz.underlying9 (by rw [← hzt]; rfl) hN1 (by rw [← hzt, txt_cells]; rfl))
  obtain ⟨j, hj⟩ : ∃ j, W1.heap.size = j := ⟨_, rfl⟩
  obtain ⟨W2, hW2⟩ : ∃ W, W1.alloc (.cells #[.pointer (some ⟨x, 0, none⟩), .int .i64 0, .int .i64 0, .string zt] 105) = W := ⟨_, rfl⟩
  have hJ2 := hid (show RJ W2 j x ((JSt.start.used : Nat) : Int) ((JSt.start.seq : Nat) : Int) (txt JSt.start.prev) from by rw [← hj, ← hW2, show txt JSt.start.prev = zt from hzt]; exact Holds.new _ _ _)
  have hb2 : Below w.heap.size w W2 := by rw [← hW2]; exact hb1.alloc hb1.size _
  have hR2 := hid (h.on hb2)
  have hB2 := hid hb2
  have hjw := hid (show w.heap.size ≤ j from by rw [← hj]; exact hb1.size)
  have hlt := hid h.lt
  have hx := hid hD.secs
  have hlen := hid hD.len
  have h256 := hid h.most
  have hD' := hid hD
  have hW1' := hid hW1
  have hW2' := hid hW2
  have hj' := hid hj
  clear hzt hW1 hN1 hb1 hW2 hb2 h hD hj
  go_enter Tryz.func46, Tryz.ntmps46
  go_wp2_with (first
    | ((with_reducible refine at_slot (some 9) ?_); refine wpList_run rfl (.slice (some ⟨w.heap.size, 0, none⟩) 32 32) (w.alloc (.cells z32 5)) (by kernel_rfl) ?_; rw [hW1'.out])
    | ((with_reducible refine at_slot (some 10) ?_); refine wpList_convert rfl 82 9 (.tmp 9) rfl _ (.string zt) _ rfl (by exact hcv.out) ?_)
    | ((with_reducible refine at_slot (some 12) ?_); refine wpList_run rfl (.pointer (some ⟨j, 0, none⟩)) (W1.alloc (.cells #[.pointer (some ⟨x, 0, none⟩), .int .i64 0, .int .i64 0, .string zt] 105)) (by rw [← hj'.out]; kernel_rfl) ?_; rw [hW2'.out])
    | fail)
  clear hcv hW1' hW2' hj'
  go_loopw [5] (fun ov wr => ∃ (l : Stood) (st : JSt) (A : Option Addr) (c : Nat), ov = .slice A l.length c ∧ stand D.xs JSt.start (bare l) = some st ∧ RJ wr j x (st.used : Int) (st.seq : Int) (txt st.prev) ∧ RDisk wr B x g1 c1 g2 c2 g3 n D ∧ wr.ownsRow w.heap.size 37 2 (.slice A l.length c) l.length (recsV l) ∧ Below w.heap.size w wr) (fun ov _ => n + 1 - slLen ov)
  case atStart => exact ⟨[], JSt.start, none, 0, rfl, rfl, hJ2.out, hR2.out, ⟨rfl, .inl ⟨rfl, rfl⟩⟩, hB2.out⟩
  case round =>
    obtain ⟨l, st, A, c, rfl, hst, hJ, hR, hrow, hB⟩ := hrel
    obtain ⟨W10, rfl⟩ : ∃ V, V = wr := ⟨_, rfl⟩
    have hbd := hid (stand_bound hx.out hst)
    have hnx := hid (rNext_any (B := B) (n := n) (now := D.xs) st hbd.out.1 (by have := hbd.out.2.2.1; rw [hlen.out] at this; exact this) (by have h1 := hbd.out; have h2 := h256.out; have h3 := hlen.out; omega) hx.out j W10 hJ hR)
    have hJ10 := hid hJ
    have hR10 := hid hR
    have hO10 := hid hrow
    have hB10 := hid hB
    have hst' := hid hst
    obtain ⟨len, hlenl⟩ : ∃ k, l.length = k := ⟨_, rfl⟩
    have hll := hid hlenl
    rw [hlenl] at hO10 ⊢
    clear hst hJ hR hrow hB hJ2 hR2 hB2 hlenl
    go_wp2_with fail
    refine hnx.out.mono ?_
    rintro e W11 (⟨hno, rfl, hb⟩ | ⟨p, hyes, rfl, hJ, hT⟩)
    · have hno' := hid (show nextS D.xs st = none from by rw [← refNext_eq hx.out]; exact hno)
      have hJ11 := hid (hJ10.out.below hb hJ10.out.lt)
      have hR11 := hid (hR10.out.on hb)
      have hO11 := hid (rows_on hO10.out hb)
      have hB11 := hid (bup hb hB10.out)
      clear hno hb hnx hJ10 hR10 hO10 hB10
      try (rename_i hKK; refine hKK _ _ ?_; clear hKK)
      go_wp2_with (first
        | ((with_reducible refine at_slot (some 6) ?_); refine wpList_run rfl (.pointer (some ⟨W11.heap.size, 0, none⟩)) (W11.alloc (.cells (recV rec0).toArray 37)) (by kernel_rfl) ?_)
        | ((with_reducible refine at_slot none ?_); refine wpList_store_mid rfl 37 (.tmp 6) (.tmp 16) rfl W11.heap.size 0 (recV rec0).toArray rfl rfl (by exact rec_there rfl _) (by exact recSize _) (by exact recOne _) ?_; generalize hW : World.setCells _ _ _ _ = W12; obtain ⟨hN, hb⟩ := rec_new rfl hW; have hJ12 := hid (hJ11.out.below hb hJ11.out.lt); have hR12 := hid (hR11.out.on hb); have hO12 := hid (rows_on hO11.out hb); have hB12 := hid (bup hb hB11.out); clear hN hb hW hJ11 hR11 hO11 hB11)
        | fail)
      refine (rClear_any hD'.out st.used (by have := hbd.out.2.2.1; rw [hlen.out] at this; exact this) j (st.seq : Int) (txt st.prev) W12 hJ12.out hR12.out).mono ?_
      rintro e W13 ⟨rfl, hR, hT⟩
      have hJ13 := hid (hT.holds hJ12.out (rj_not hR12.out hJ12.out (by decide) (by decide)))
      have hR13 := hid hR
      have hO13 := hid (row_turnS hO12.out hT (fun k hk => by have h1 := hlt.out; rcases hk with e | e | e <;> omega))
      have hT13 := hid ((TurnS.of_below hB12.out).trans hT)
      clear hR hT hJ12 hR12 hO12 hB12
      try (rename_i hKK; refine hKK _ _ ?_; clear hKK)
      go_wp2_with fail
      go_ret2
      exact ⟨j, A, c, l, st, hst'.out, hno'.out, by rw [hll.out]; rfl, hJ13.out, by rw [hll.out]; exact hO13.out, hR13.out, hT13.out, hjw.out⟩
    · have hyes' := hid (show nextS D.xs st = some p from by rw [← refNext_eq hx.out]; exact hyes)
      have hrb := hid (stood_rb hx.out hyes'.out)
      have hbj : Below w.heap.size W10 W11 := hT.below (fun k hk => by rw [hk]; exact hjw.out) hB10.out.size
      have hJ11 := hid hJ
      have hR11 := hid (hR10.out.under hbj hlt.out)
      have hO11 := hid (rows_of_blocks hO10.out fun k hk => hT.block k (hO10.out.lt k hk).2 (fun e => recs_ne hO10.out hk hJ10.out (by decide) e))
      have hB11 := hid (hB10.out.trans hbj)
      have hsn := hid (stand_snoc hst'.out hyes'.out)
      obtain ⟨st2, hst2⟩ : ∃ s, st.pass p.1 p.2 = s := ⟨_, rfl⟩
      rw [hst2] at hJ11 hsn
      obtain ⟨l2, hl2⟩ : ∃ l2 : Stood, l ++ [(⟨p, hrb.out⟩ : RB)] = l2 := ⟨_, rfl⟩
      have hsn2 := hid (show stand D.xs JSt.start (bare l2) = some st2 from by rw [← hl2, bare_snoc]; exact hsn.out)
      have hln2 := hid (show l2.length = len + 1 from by rw [← hl2, List.length_append, hll.out]; rfl)
      have hrv2 := hid (show recsV l ++ recV p.1 = recsV l2 from by rw [← hl2, recsV_snoc])
      have hbd2 := hid (stand_bound hx.out hsn2.out)
      clear hyes hT hJ hnx hJ10 hR10 hO10 hB10 hbj hst2 hl2 hsn
      try (rename_i hKK; refine hKK _ _ ?_; clear hKK)
      go_wp2_with (first
        | ((with_reducible refine at_slot (some 6) ?_); refine wpList_run rfl (.pointer (some ⟨W11.heap.size, 0, none⟩)) (W11.alloc (.cells (recV rec0).toArray 37)) (by kernel_rfl) ?_)
        | ((with_reducible refine at_slot none ?_); refine wpList_store_mid rfl 37 (.tmp 6) (.tmp 16) rfl W11.heap.size 0 (recV p.1).toArray rfl rfl (by exact rec_there rfl _) (by exact recSize _) (by exact recOne _) ?_; generalize hW : World.setCells _ _ _ _ = W12; obtain ⟨hN, hb⟩ := rec_new rfl hW; have hN12 := hid hN; have hJ12 := hid (hJ11.out.below hb hJ11.out.lt); have hR12 := hid (hR11.out.on hb); have hO12 := hid (rows_on hO11.out hb); have hB12 := hid (bup hb hB11.out); clear hN hb hW hJ11 hR11 hO11 hB11)
        | ((with_reducible refine at_slot (some 25) ?_); refine wpList_load_mid rfl 37 (.tmp 6) rfl W11.heap.size 0 rfl (recV p.1) _ (by exact h_all hN12.out) Tryz.underlying37 rfl (by exact recSizeL _) ?_)
        | ((with_reducible refine at_slot (some 26) ?_); refine wpList_pushRec rfl rfl (.tmp 25) (.tmp 24) (.tmp 26) rfl rfl w.heap.size A len c (recsV l) p.1 rfl rfl rfl (by have h1 := hbd2.out; have h2 := h256.out; have h3 := hlen.out; have h4 := hln2.out; omega) (by exact hO12.out) (by exact hB12.out.size) ?_; intro A2 c2 W13 hrow hg; have hO13 := hid hrow; have hJ13 := hid (hJ12.out.grown hg (fun e => recs_ne hO12.out e.symm hJ12.out (by decide) rfl)); have hR13 := hid (hR12.out.kept fun k hk => hg.block k (by have h1 := hlt.out; have h2 := hB12.out.size; rcases hk with e | e | e | e <;> omega) (fun e => by have h0 := (hO12.out.lt k e.symm).1; have h1 := hlt.out; rcases hk with e | e | e | e <;> omega)); have hB13 := hid (hB12.out.grown hg hB12.out.size (fun k e => (hO12.out.lt k e).1)); clear hrow hg hJ12 hR12 hO12 hB12)
        | fail)
      go_roundw
      case rel => exact ⟨l2, st2, A2, c2, by rw [hln2.out], hsn2.out, hJ13.out, hR13.out, by rw [hln2.out, ← hrv2.out]; exact hO13.out, hB13.out⟩
      case measure => show n + 1 - (len + 1) < n + 1 - len; have h1 := hbd2.out; have h2 := hlen.out; have h3 := hln2.out; omega

end Go.Proofs.YtmgaegaibglnhaaGreat
namespace Go.Proofs.YtmgaegaibglnhaaGreat
open Go.RowKit
open Go.Lib (strCells strCells_length strCells_oneCell)
attribute [local irreducible] Sha.compress Sha.blocks Sha.sha Sha.pad

theorem rdisk_write {w : World} {B x g1 c1 g2 c2 g3 n k : Nat} {D : Dk} {s : ByteArray} (hk : k < n) (h : RDiskAt w B x g1 c1 g2 c2 g3 n (D.xs.set k s) (thnD n D) ((flD n D).set k true)) : RDisk w B x g1 c1 g2 c2 g3 n (D.write k s) := by
  show RDiskAt w B x g1 c1 g2 c2 g3 n (D.write k s).xs (thnD n (D.write k s)) (flD n (D.write k s))
  rw [thnD_write, flD_write s hk]
  exact h
theorem seal_hash (prev : List UInt8) (s k : Nat) (d : ByteArray) (hk : k ≤ 255) (hd : d.size ≤ 1024) : ((recBytes prev s k d).data.toList.drop (9 + d.size)).take 32 = recHash prev s k d := (rec_parts prev s k d hk hd).2.2.2

theorem rd_cell {w : World} {B x g1 c1 g2 c2 g3 n j : Nat} {now thn : List ByteArray} {fl : List Bool} {t : TypeId} {cs : List Value} (h : RDiskAt w B x g1 c1 g2 c2 g3 n now thn fl) (hJ : Holds w j t cs) (hn : ¬ RS g1 g2 g3 j) (ht : t ≠ 92) (o : Nat) (v : Value) : RDiskAt (w.setCell ⟨j, o, none⟩ v) B x g1 c1 g2 c2 g3 n now thn fl :=
  h.kept fun k hk => heap_setCell_other w ⟨j, o, none⟩ k v (by
    rcases hk with e | e | e | e
    · subst e
      exact fun e2 => types_apart hJ h.own ht e2.symm
    · subst e
      exact fun e2 => hn (.inl e2.symm)
    · subst e
      exact fun e2 => hn (.inr (.inl e2.symm))
    · subst e
      exact fun e2 => hn (.inr (.inr e2.symm)))
theorem turnS_or {P S : Nat → Prop} {a b : World} (h : TurnS S a b) : TurnS (fun k => P k ∨ S k) a b := ⟨h.os, h.tape, h.output, h.size, fun k hk hs => h.block k hk (fun e => hs (.inr e))⟩

set_option maxRecDepth 100000 in
set_option maxHeartbeats 4000000 in
theorem rAppend_bad {B x g1 c1 g2 c2 g3 n : Nat} {D : Dk} (st : JSt) (hp : st.prev.length = 32) (R : Rec) (hm : sealMay (st.seq : Int) R = false) (hu : st.used ≤ n) (hs : st.seq ≤ 10000) (hD : D.fine n) (j : Nat) (w : World) (hJ : RJ w j x (st.used : Int) (st.seq : Int) (txt st.prev)) (h : RDisk w B x g1 c1 g2 c2 g3 n D) :
    Calls Tryz.prog 15 #[.pointer (some ⟨j, 0, none⟩), .agg (recV R).toArray] w fun e w' => e = .returned (.int .i64 800) ∧ Below w.heap.size w w' := by
  have hSl := hid (show ∀ V, Calls Tryz.prog 50 #[.string (txt st.prev), .int .i64 (st.seq : Int), .agg (recV R).toArray] V fun e w' => e = .returned (.tuple #[.string ⟨#[]⟩, .int .i64 800]) ∧ Below V.heap.size V w' from fun V => by
    have := rSeal_any st.prev hp (st.seq : Int) R V
    unfold sealAns at this
    rw [hm] at this
    exact this)
  clear hm
  obtain ⟨g, hg⟩ : ∃ g, w.heap.size = g := ⟨_, rfl⟩
  have hg' : Hid (w.heap.size ≤ g) := hid (by omega)
  obtain ⟨W0, hW0⟩ : ∃ V, w.alloc (.cells (recV R).toArray 37) = V := ⟨_, rfl⟩
  have hH0 := hid (show Holds W0 g 37 (recV R) from by rw [← hW0, ← hg]; exact Holds.new w 37 (recV R).toArray)
  have hB0 := hid (show Below w.heap.size w W0 from by rw [← hW0]; exact (Below.refl _ _).alloc (Nat.le_refl _) _)
  have hJ0 := hid (hJ.below hB0.out hJ.lt)
  have hR0 := hid (h.on hB0.out)
  have hjg := hid (show j < w.heap.size from hJ.lt)
  have hW0' := hid hW0
  have hgw := hid hg
  have hu' := hid hu
  have hs' := hid hs
  have h256' := hid h.most
  have hD' := hid hD
  have hltx := hid h.lt
  clear hu hs hD hJ h hW0 hg
  go_enter Tryz.func15, Tryz.ntmps15
  go_wp2_with (first
    | ((with_reducible refine at_slot (some 3) ?_); refine wpList_run rfl (.pointer (some ⟨g, 0, none⟩)) (w.alloc (.cells (recV R).toArray 37)) (by rw [← hgw.out]; kernel_rfl) ?_; rw [hW0'.out])
    | fail)
  clear hW0' hgw
  have hb : Below W0.heap.size W0 W0.drew := (Below.refl _ _).drew
  have hH1 := hid (hH0.out.below hb hH0.out.lt)
  have hJ1 := hid (hJ0.out.below hb hJ0.out.lt)
  have hR1 := hid (hR0.out.on hb)
  have hB1 := hid (bup hb hB0.out)
  clear hb hH0 hJ0 hR0 hB0
  refine wp_region_held_drew (S := fun V => RJ V j x (st.used : Int) (st.seq : Int) (txt st.prev) ∧ Holds V g 37 (recV R)) (by kernel_rfl) (by exact ⟨hJ1.out, hH1.out⟩) (fun hHeld => ?_)
  generalize W0.drew = W1 at *
  refine tkn 0 (.pointer (some ⟨j, 0, none⟩)) rfl (by kernel_rfl) (fun _ _ _ h => h) (yieldsIf_move _ rfl rfl rfl) hHeld ?_
  simp only [ly, Act.put]
  refine tkn 1 (.pointer (some ⟨j, 0, none⟩)) rfl (by kernel_rfl) (fun _ _ _ h => h) (.inl ⟨by kernel_rfl, fun w _ => by go_simp⟩) hHeld ?_
  simp only [ly, Act.put]
  refine tkn 2 (.pointer (some ⟨j, 3, none⟩)) rfl (by kernel_rfl) (fun _ _ _ h => h) (.inl ⟨by kernel_rfl, fun w _ => by go_simp⟩) hHeld ?_
  simp only [ly, Act.put]
  refine tkn 3 (.string (txt st.prev)) rfl (by kernel_rfl) (fun _ _ _ h => h) (.inl ⟨by kernel_rfl, fun V hS => by have c3 := hS.1.cK 3 _ rfl; go_simp⟩) hHeld ?_
  simp only [ly, Act.put]
  refine tkn 4 (.pointer (some ⟨j, 0, none⟩)) rfl (by kernel_rfl) (fun _ _ _ h => h) (yieldsIf_move _ rfl rfl rfl) hHeld ?_
  simp only [ly, Act.put]
  refine tkn 5 (.pointer (some ⟨j, 0, none⟩)) rfl (by kernel_rfl) (fun _ _ _ h => h) (.inl ⟨by kernel_rfl, fun w _ => by go_simp⟩) hHeld ?_
  simp only [ly, Act.put]
  refine tkn 6 (.pointer (some ⟨j, 2, none⟩)) rfl (by kernel_rfl) (fun _ _ _ h => h) (.inl ⟨by kernel_rfl, fun w _ => by go_simp⟩) hHeld ?_
  simp only [ly, Act.put]
  refine tkn 7 (.int .i64 (st.seq : Int)) rfl (by kernel_rfl) (fun _ _ _ h => h) (.inl ⟨by kernel_rfl, fun V hS => by have c2 := hS.1.cK 2 _ rfl; go_simp⟩) hHeld ?_
  simp only [ly, Act.put]
  refine tkn 8 (.agg (recV R).toArray) rfl (by kernel_rfl) (fun _ _ _ h => h) (yieldsIf_load_mid (by kernel_rfl) _ _ rfl _ _ rfl _ _ (fun V hS => h_all hS.2) Tryz.underlying37 rfl (by exact recSizeL _)) hHeld ?_
  simp only [ly, Act.put]
  refine wpAnyH_ready (rs := [9]) (by kernel_rfl) (by simp) (AllReadyH.cons rfl (fun K hK => ?_) AllReadyH.nil)
  have hK' := hid hK
  clear hK
  rw [if_pos (by kernel_rfl)]
  simp only [ly1, ly2, ly3]
  go_simp
  refine (hSl.out _).mono ?_
  rintro e W2 ⟨rfl, hb⟩
  have hH2 := hid (hH1.out.below hb hH1.out.lt)
  have hJ2 := hid (hJ1.out.below hb hJ1.out.lt)
  have hR2 := hid (hR1.out.on hb)
  have hB2 := hid (bup hb hB1.out)
  clear hb hH1 hJ1 hR1 hB1
  refine hK'.out _ _ (by exact ⟨hJ2.out, hH2.out⟩) (fun hHeld => ?_)
  clear hK' K
  refine tkn 10 (.tuple #[.string ⟨#[]⟩, .int .i64 800]) rfl (by kernel_rfl) (fun _ _ _ h => h) (yieldsIf_move _ rfl rfl rfl) hHeld ?_
  simp only [ly, Act.put]
  refine tkn 11 (.string ⟨#[]⟩) rfl (by kernel_rfl) (fun _ _ _ h => h) (.inl ⟨by kernel_rfl, fun w _ => by go_simp⟩) hHeld ?_
  simp only [ly, Act.put]
  refine tkn 12 (.int .i64 800) rfl (by kernel_rfl) (fun _ _ _ h => h) (.inl ⟨by kernel_rfl, fun w _ => by go_simp⟩) hHeld ?_
  simp only [ly, Act.put]
  refine tkn 13 (.string ⟨#[]⟩) rfl (by kernel_rfl) (fun _ _ _ h => h) (yieldsIf_assign _ rfl rfl rfl) hHeld ?_
  simp only [ly, Act.put]
  refine tkn 14 (.int .i64 800) rfl (by kernel_rfl) (fun _ _ _ h => h) (yieldsIf_assign _ rfl rfl rfl) hHeld ?_
  simp only [ly, Act.put]
  refine wpAnyH_done (by kernel_rfl) ?_ _
  go_wp2_with fail
  go_ret
  exact ⟨rfl, hB2.out⟩

set_option maxRecDepth 100000 in
set_option maxHeartbeats 4000000 in
theorem rAppend_full {B x g1 c1 g2 c2 g3 n : Nat} {D : Dk} (st : JSt) (hp : st.prev.length = 32) (R : Rec) (hm : sealMay (st.seq : Int) R = true) (hf : n < st.used + wholes (41 + R.data.size)) (hu : st.used ≤ n) (hs : st.seq ≤ 10000) (hD : D.fine n) (j : Nat) (w : World) (hJ : RJ w j x (st.used : Int) (st.seq : Int) (txt st.prev)) (h : RDisk w B x g1 c1 g2 c2 g3 n D) :
    Calls Tryz.prog 15 #[.pointer (some ⟨j, 0, none⟩), .agg (recV R).toArray] w fun e w' => e = .returned (.int .i64 801) ∧ Below w.heap.size w w' := by
  obtain ⟨t, ht⟩ : ∃ t, recBytes st.prev st.seq R.kind.toNat R.data = t := ⟨_, rfl⟩
  obtain ⟨m, hm0⟩ : ∃ m, wholes (41 + R.data.size) = m := ⟨_, rfl⟩
  obtain ⟨e1, e2, e3, e4, e5⟩ := sealMay_iff.1 hm
  have hts : t.size = m * 64 := by rw [← ht, recBytes_size, hm0]
  have hm9 : m ≤ 20 := by rw [← hm0]; unfold wholes; omega
  have hSl := hid (show ∀ V, Calls Tryz.prog 50 #[.string (txt st.prev), .int .i64 (st.seq : Int), .agg (recV R).toArray] V fun e w' => e = .returned (.tuple #[.string t, .int .i64 0]) ∧ Below V.heap.size V w' from fun V => by
    have := rSeal_any st.prev hp (st.seq : Int) R V
    unfold sealAns at this
    rw [hm, if_pos rfl, show (st.seq : Int).toNat = st.seq from rfl, ht] at this
    exact this)
  have wm : (t.size : Int) / 64 = (m : Int) := by omega
  have wmw := IntWalk.i64_in (m : Int) (by omega)
  obtain ⟨fr, hfr⟩ : ∃ f, n - st.used = f := ⟨_, rfl⟩
  have wf : IntKind.i64.wrap ((n : Int) - (st.used : Int)) = (fr : Int) := by have := h.most; rw [IntWalk.i64_in _ (by omega)]; omega
  have hgt : (fr : Int) < (m : Int) := by omega
  have hts' := hid hts
  clear ht hm0 hm e1 e2 e3 e4 e5 hm9 hfr hf hts
  obtain ⟨g, hg⟩ : ∃ g, w.heap.size = g := ⟨_, rfl⟩
  have hg' : Hid (w.heap.size ≤ g) := hid (by omega)
  obtain ⟨W0, hW0⟩ : ∃ V, w.alloc (.cells (recV R).toArray 37) = V := ⟨_, rfl⟩
  have hH0 := hid (show Holds W0 g 37 (recV R) from by rw [← hW0, ← hg]; exact Holds.new w 37 (recV R).toArray)
  have hB0 := hid (show Below w.heap.size w W0 from by rw [← hW0]; exact (Below.refl _ _).alloc (Nat.le_refl _) _)
  have hJ0 := hid (hJ.below hB0.out hJ.lt)
  have hR0 := hid (h.on hB0.out)
  have hjg := hid (show j < w.heap.size from hJ.lt)
  have hW0' := hid hW0
  have hgw := hid hg
  have hu' := hid hu
  have hs' := hid hs
  have h256' := hid h.most
  have hD' := hid hD
  have hltx := hid h.lt
  clear hu hs hD hJ h hW0 hg
  go_enter Tryz.func15, Tryz.ntmps15
  go_wp2_with (first
    | ((with_reducible refine at_slot (some 3) ?_); refine wpList_run rfl (.pointer (some ⟨g, 0, none⟩)) (w.alloc (.cells (recV R).toArray 37)) (by rw [← hgw.out]; kernel_rfl) ?_; rw [hW0'.out])
    | fail)
  clear hW0' hgw
  have hb : Below W0.heap.size W0 W0.drew := (Below.refl _ _).drew
  have hH1 := hid (hH0.out.below hb hH0.out.lt)
  have hJ1 := hid (hJ0.out.below hb hJ0.out.lt)
  have hR1 := hid (hR0.out.on hb)
  have hB1 := hid (bup hb hB0.out)
  clear hb hH0 hJ0 hR0 hB0
  refine wp_region_held_drew (S := fun V => RJ V j x (st.used : Int) (st.seq : Int) (txt st.prev) ∧ Holds V g 37 (recV R)) (by kernel_rfl) (by exact ⟨hJ1.out, hH1.out⟩) (fun hHeld => ?_)
  generalize W0.drew = W1 at *
  refine tkn 0 (.pointer (some ⟨j, 0, none⟩)) rfl (by kernel_rfl) (fun _ _ _ h => h) (yieldsIf_move _ rfl rfl rfl) hHeld ?_
  simp only [ly, Act.put]
  refine tkn 1 (.pointer (some ⟨j, 0, none⟩)) rfl (by kernel_rfl) (fun _ _ _ h => h) (.inl ⟨by kernel_rfl, fun w _ => by go_simp⟩) hHeld ?_
  simp only [ly, Act.put]
  refine tkn 2 (.pointer (some ⟨j, 3, none⟩)) rfl (by kernel_rfl) (fun _ _ _ h => h) (.inl ⟨by kernel_rfl, fun w _ => by go_simp⟩) hHeld ?_
  simp only [ly, Act.put]
  refine tkn 3 (.string (txt st.prev)) rfl (by kernel_rfl) (fun _ _ _ h => h) (.inl ⟨by kernel_rfl, fun V hS => by have c3 := hS.1.cK 3 _ rfl; go_simp⟩) hHeld ?_
  simp only [ly, Act.put]
  refine tkn 4 (.pointer (some ⟨j, 0, none⟩)) rfl (by kernel_rfl) (fun _ _ _ h => h) (yieldsIf_move _ rfl rfl rfl) hHeld ?_
  simp only [ly, Act.put]
  refine tkn 5 (.pointer (some ⟨j, 0, none⟩)) rfl (by kernel_rfl) (fun _ _ _ h => h) (.inl ⟨by kernel_rfl, fun w _ => by go_simp⟩) hHeld ?_
  simp only [ly, Act.put]
  refine tkn 6 (.pointer (some ⟨j, 2, none⟩)) rfl (by kernel_rfl) (fun _ _ _ h => h) (.inl ⟨by kernel_rfl, fun w _ => by go_simp⟩) hHeld ?_
  simp only [ly, Act.put]
  refine tkn 7 (.int .i64 (st.seq : Int)) rfl (by kernel_rfl) (fun _ _ _ h => h) (.inl ⟨by kernel_rfl, fun V hS => by have c2 := hS.1.cK 2 _ rfl; go_simp⟩) hHeld ?_
  simp only [ly, Act.put]
  refine tkn 8 (.agg (recV R).toArray) rfl (by kernel_rfl) (fun _ _ _ h => h) (yieldsIf_load_mid (by kernel_rfl) _ _ rfl _ _ rfl _ _ (fun V hS => h_all hS.2) Tryz.underlying37 rfl (by exact recSizeL _)) hHeld ?_
  simp only [ly, Act.put]
  refine wpAnyH_ready (rs := [9]) (by kernel_rfl) (by simp) (AllReadyH.cons rfl (fun K hK => ?_) AllReadyH.nil)
  have hK' := hid hK
  clear hK
  rw [if_pos (by kernel_rfl)]
  simp only [ly1, ly2, ly3]
  go_simp
  refine (hSl.out _).mono ?_
  rintro e W2 ⟨rfl, hb⟩
  have hH2 := hid (hH1.out.below hb hH1.out.lt)
  have hJ2 := hid (hJ1.out.below hb hJ1.out.lt)
  have hR2 := hid (hR1.out.on hb)
  have hB2 := hid (bup hb hB1.out)
  clear hb hH1 hJ1 hR1 hB1
  refine hK'.out _ _ (by exact ⟨hJ2.out, hH2.out⟩) (fun hHeld => ?_)
  clear hK' K
  refine tkn 10 (.tuple #[.string t, .int .i64 0]) rfl (by kernel_rfl) (fun _ _ _ h => h) (yieldsIf_move _ rfl rfl rfl) hHeld ?_
  simp only [ly, Act.put]
  refine tkn 11 (.string t) rfl (by kernel_rfl) (fun _ _ _ h => h) (.inl ⟨by kernel_rfl, fun w _ => by go_simp⟩) hHeld ?_
  simp only [ly, Act.put]
  refine tkn 12 (.int .i64 0) rfl (by kernel_rfl) (fun _ _ _ h => h) (.inl ⟨by kernel_rfl, fun w _ => by go_simp⟩) hHeld ?_
  simp only [ly, Act.put]
  refine tkn 13 (.string t) rfl (by kernel_rfl) (fun _ _ _ h => h) (yieldsIf_assign _ rfl rfl rfl) hHeld ?_
  simp only [ly, Act.put]
  refine tkn 14 (.int .i64 0) rfl (by kernel_rfl) (fun _ _ _ h => h) (yieldsIf_assign _ rfl rfl rfl) hHeld ?_
  simp only [ly, Act.put]
  refine wpAnyH_done (by kernel_rfl) ?_ _
  go_wp2_with fail
  have hb : Below W2.heap.size W2 W2.drew := (Below.refl _ _).drew
  have hH3 := hid (hH2.out.below hb hH2.out.lt)
  have hJ3 := hid (hJ2.out.below hb hJ2.out.lt)
  have hR3 := hid (hR2.out.on hb)
  have hB3 := hid (bup hb hB2.out)
  clear hb hH2 hJ2 hR2 hB2
  refine wp_region_held_drew (S := fun V => RJ V j x (st.used : Int) (st.seq : Int) (txt st.prev) ∧ Holds V g 37 (recV R)) (by kernel_rfl) (by exact ⟨hJ3.out, hH3.out⟩) (fun hHeld => ?_)
  generalize W2.drew = W3 at *
  refine tkn 0 (.int .i64 (m : Int)) rfl (by kernel_rfl) (fun _ _ _ h => h) (yieldsIf_move _ rfl rfl rfl) hHeld ?_
  simp only [ly, Act.put]
  refine tkn 1 (.pointer (some ⟨j, 0, none⟩)) rfl (by kernel_rfl) (fun _ _ _ h => h) (yieldsIf_move _ rfl rfl rfl) hHeld ?_
  simp only [ly, Act.put]
  refine tkn 2 (.pointer (some ⟨j, 0, none⟩)) rfl (by kernel_rfl) (fun _ _ _ h => h) (.inl ⟨by kernel_rfl, fun w _ => by go_simp⟩) hHeld ?_
  simp only [ly, Act.put]
  refine tkn 3 (.pointer (some ⟨j, 0, none⟩)) rfl (by kernel_rfl) (fun _ _ _ h => h) (.inl ⟨by kernel_rfl, fun w _ => by go_simp⟩) hHeld ?_
  simp only [ly, Act.put]
  refine tkn 4 (.pointer (some ⟨x, 0, none⟩)) rfl (by kernel_rfl) (fun _ _ _ h => h) (.inl ⟨by kernel_rfl, fun V hS => by have c0 := hS.1.cK 0 _ rfl; go_simp⟩) hHeld ?_
  simp only [ly, Act.put]
  refine tkn 6 (.pointer (some ⟨j, 0, none⟩)) rfl (by kernel_rfl) (fun _ _ _ h => h) (yieldsIf_move _ rfl rfl rfl) hHeld ?_
  simp only [ly, Act.put]
  refine tkn 7 (.pointer (some ⟨j, 0, none⟩)) rfl (by kernel_rfl) (fun _ _ _ h => h) (.inl ⟨by kernel_rfl, fun w _ => by go_simp⟩) hHeld ?_
  simp only [ly, Act.put]
  refine tkn 8 (.pointer (some ⟨j, 1, none⟩)) rfl (by kernel_rfl) (fun _ _ _ h => h) (.inl ⟨by kernel_rfl, fun w _ => by go_simp⟩) hHeld ?_
  simp only [ly, Act.put]
  refine tkn 9 (.int .i64 (st.used : Int)) rfl (by kernel_rfl) (fun _ _ _ h => h) (.inl ⟨by kernel_rfl, fun V hS => by have c1 := hS.1.cK 1 _ rfl; go_simp⟩) hHeld ?_
  simp only [ly, Act.put]
  refine wpAnyH_ready (rs := [5]) (by kernel_rfl) (by simp) (AllReadyH.cons rfl (fun K hK => ?_) AllReadyH.nil)
  have hK' := hid hK
  clear hK
  rw [if_pos (by kernel_rfl)]
  simp only [ly1, ly2, ly3]
  go_simp
  refine (rdSectors_any W3 hR3.out).mono ?_
  rintro e w' ⟨rfl, hw⟩
  obtain rfl := hw.symm
  clear hw
  refine hK'.out _ _ (by exact ⟨hJ3.out, hH3.out⟩) (fun hHeld => ?_)
  clear hK' K
  refine tkn 10 (.int .i64 (fr : Int)) rfl (by kernel_rfl) (fun _ _ _ h => h) (.inl ⟨by kernel_rfl, fun w _ => by go_simp⟩) hHeld ?_
  simp only [ly, Act.put]
  refine tkn 11 (.bool true) rfl (by kernel_rfl) (fun _ _ _ h => h) (.inl ⟨by kernel_rfl, fun w _ => by go_simp⟩) hHeld ?_
  simp only [ly, Act.put]
  refine wpAnyH_done (by kernel_rfl) ?_ _
  go_wp2_with fail
  go_ret
  exact ⟨rfl, hB3.out⟩

set_option maxRecDepth 100000 in
set_option maxHeartbeats 4000000 in
theorem rAppend_ok {B x g1 c1 g2 c2 g3 n : Nat} {D : Dk} (st : JSt) (hp : st.prev.length = 32) (R : Rec) (hm : sealMay (st.seq : Int) R = true) (hf : st.used + wholes (41 + R.data.size) ≤ n) (hu : st.used ≤ n) (hs : st.seq ≤ 10000) (hD : D.fine n) (j : Nat) (w : World) (hJ : RJ w j x (st.used : Int) (st.seq : Int) (txt st.prev)) (h : RDisk w B x g1 c1 g2 c2 g3 n D) :
    Calls Tryz.prog 15 #[.pointer (some ⟨j, 0, none⟩), .agg (recV R).toArray] w fun e w' => e = .returned (.int .i64 0) ∧ RJ w' j x ((st.pass R (recBytes st.prev st.seq R.kind.toNat R.data)).used : Int) ((st.pass R (recBytes st.prev st.seq R.kind.toNat R.data)).seq : Int) (txt (st.pass R (recBytes st.prev st.seq R.kind.toNat R.data)).prev) ∧ RDisk w' B x g1 c1 g2 c2 g3 n (writeS D st.used (recBytes st.prev st.seq R.kind.toNat R.data) (wholes (41 + R.data.size))) ∧ TurnS (fun k => k = j ∨ RS g1 g2 g3 k) w w' := by
  obtain ⟨t, ht⟩ : ∃ t, recBytes st.prev st.seq R.kind.toNat R.data = t := ⟨_, rfl⟩
  obtain ⟨m, hm0⟩ : ∃ m, wholes (41 + R.data.size) = m := ⟨_, rfl⟩
  obtain ⟨e1, e2, e3, e4, e5⟩ := sealMay_iff.1 hm
  have hts : t.size = m * 64 := by rw [← ht, recBytes_size, hm0]
  have hm9 : m ≤ 20 := by rw [← hm0]; unfold wholes; omega
  have hSl := hid (show ∀ V, Calls Tryz.prog 50 #[.string (txt st.prev), .int .i64 (st.seq : Int), .agg (recV R).toArray] V fun e w' => e = .returned (.tuple #[.string t, .int .i64 0]) ∧ Below V.heap.size V w' from fun V => by
    have := rSeal_any st.prev hp (st.seq : Int) R V
    unfold sealAns at this
    rw [hm, if_pos rfl, show (st.seq : Int).toNat = st.seq from rfl, ht] at this
    exact this)
  have wm : (t.size : Int) / 64 = (m : Int) := by omega
  have wmw := IntWalk.i64_in (m : Int) (by omega)
  obtain ⟨fr, hfr⟩ : ∃ f, n - st.used = f := ⟨_, rfl⟩
  have wf : IntKind.i64.wrap ((n : Int) - (st.used : Int)) = (fr : Int) := by have := h.most; rw [IntWalk.i64_in _ (by omega)]; omega
  have hgt : ¬ (fr : Int) < (m : Int) := by omega
  have hle : m ≤ fr := by omega
  obtain ⟨U1, hU1⟩ : ∃ u, st.used + m = u := ⟨_, rfl⟩
  obtain ⟨S1, hS1⟩ : ∃ s, st.seq + 1 = s := ⟨_, rfl⟩
  obtain ⟨pv, hpv⟩ : ∃ p, recHash st.prev st.seq R.kind.toNat R.data = p := ⟨_, rfl⟩
  have hkd : ((R.kind.toNat : Nat) : Int) = R.kind := by omega
  have hSe := hid (show ∀ V, Calls Tryz.prog 52 #[.string (txt st.prev), .int .i64 (st.seq : Int), .agg (recV R).toArray] V fun e w' => e = .returned (.string (txt pv)) ∧ Below V.heap.size V w' from fun V => by
    have := rseal_any st.prev hp st.seq R.kind.toNat R.data (by omega) (by omega) e5 V
    rw [hpv, hkd] at this
    exact this)
  have hps := hid (show st.pass R t = ⟨pv, S1, U1⟩ from by
    unfold JSt.pass
    rw [← ht, seal_hash _ _ _ _ (by omega) e5, hpv, ht, hts, Nat.mul_div_cancel _ (by decide : 0 < 64), hU1, hS1])
  have hUm := hid (show st.used + m ≤ n from by omega)
  have wU : IntKind.i64.wrap ((st.used : Int) + (m : Int)) = (U1 : Int) := by have := h.most; rw [IntWalk.i64_in _ (by omega)]; omega
  have wS : IntKind.i64.wrap ((st.seq : Int) + 1) = (S1 : Int) := by rw [IntWalk.i64_in _ (by omega)]; omega
  have hm9' := hid hm9
  have hts' := hid hts
  have hRR := hid (show recBytes st.prev st.seq R.kind.toNat R.data = t from ht)
  have hMM := hid hm0
  have hf256 := hid h.most
  clear ht hm0 hm e1 e2 e3 e4 e5 hm9 hfr hf hU1 hS1 hpv hkd hts
  obtain ⟨g, hg⟩ : ∃ g, w.heap.size = g := ⟨_, rfl⟩
  have hg' : Hid (w.heap.size ≤ g) := hid (by omega)
  obtain ⟨W0, hW0⟩ : ∃ V, w.alloc (.cells (recV R).toArray 37) = V := ⟨_, rfl⟩
  have hH0 := hid (show Holds W0 g 37 (recV R) from by rw [← hW0, ← hg]; exact Holds.new w 37 (recV R).toArray)
  have hB0 := hid (show Below w.heap.size w W0 from by rw [← hW0]; exact (Below.refl _ _).alloc (Nat.le_refl _) _)
  have hJ0 := hid (hJ.below hB0.out hJ.lt)
  have hR0 := hid (h.on hB0.out)
  have hjg := hid (show j < w.heap.size from hJ.lt)
  have hW0' := hid hW0
  have hgw := hid hg
  have hu' := hid hu
  have hs' := hid hs
  have h256' := hid h.most
  have hD' := hid hD
  have hltx := hid h.lt
  clear hu hs hD hJ h hW0 hg
  go_enter Tryz.func15, Tryz.ntmps15
  go_wp2_with (first
    | ((with_reducible refine at_slot (some 3) ?_); refine wpList_run rfl (.pointer (some ⟨g, 0, none⟩)) (w.alloc (.cells (recV R).toArray 37)) (by rw [← hgw.out]; kernel_rfl) ?_; rw [hW0'.out])
    | fail)
  clear hW0' hgw
  have hb : Below W0.heap.size W0 W0.drew := (Below.refl _ _).drew
  have hH1 := hid (hH0.out.below hb hH0.out.lt)
  have hJ1 := hid (hJ0.out.below hb hJ0.out.lt)
  have hR1 := hid (hR0.out.on hb)
  have hB1 := hid (bup hb hB0.out)
  clear hb hH0 hJ0 hR0 hB0
  refine wp_region_held_drew (S := fun V => RJ V j x (st.used : Int) (st.seq : Int) (txt st.prev) ∧ Holds V g 37 (recV R)) (by kernel_rfl) (by exact ⟨hJ1.out, hH1.out⟩) (fun hHeld => ?_)
  generalize W0.drew = W1 at *
  refine tkn 0 (.pointer (some ⟨j, 0, none⟩)) rfl (by kernel_rfl) (fun _ _ _ h => h) (yieldsIf_move _ rfl rfl rfl) hHeld ?_
  simp only [ly, Act.put]
  refine tkn 1 (.pointer (some ⟨j, 0, none⟩)) rfl (by kernel_rfl) (fun _ _ _ h => h) (.inl ⟨by kernel_rfl, fun w _ => by go_simp⟩) hHeld ?_
  simp only [ly, Act.put]
  refine tkn 2 (.pointer (some ⟨j, 3, none⟩)) rfl (by kernel_rfl) (fun _ _ _ h => h) (.inl ⟨by kernel_rfl, fun w _ => by go_simp⟩) hHeld ?_
  simp only [ly, Act.put]
  refine tkn 3 (.string (txt st.prev)) rfl (by kernel_rfl) (fun _ _ _ h => h) (.inl ⟨by kernel_rfl, fun V hS => by have c3 := hS.1.cK 3 _ rfl; go_simp⟩) hHeld ?_
  simp only [ly, Act.put]
  refine tkn 4 (.pointer (some ⟨j, 0, none⟩)) rfl (by kernel_rfl) (fun _ _ _ h => h) (yieldsIf_move _ rfl rfl rfl) hHeld ?_
  simp only [ly, Act.put]
  refine tkn 5 (.pointer (some ⟨j, 0, none⟩)) rfl (by kernel_rfl) (fun _ _ _ h => h) (.inl ⟨by kernel_rfl, fun w _ => by go_simp⟩) hHeld ?_
  simp only [ly, Act.put]
  refine tkn 6 (.pointer (some ⟨j, 2, none⟩)) rfl (by kernel_rfl) (fun _ _ _ h => h) (.inl ⟨by kernel_rfl, fun w _ => by go_simp⟩) hHeld ?_
  simp only [ly, Act.put]
  refine tkn 7 (.int .i64 (st.seq : Int)) rfl (by kernel_rfl) (fun _ _ _ h => h) (.inl ⟨by kernel_rfl, fun V hS => by have c2 := hS.1.cK 2 _ rfl; go_simp⟩) hHeld ?_
  simp only [ly, Act.put]
  refine tkn 8 (.agg (recV R).toArray) rfl (by kernel_rfl) (fun _ _ _ h => h) (yieldsIf_load_mid (by kernel_rfl) _ _ rfl _ _ rfl _ _ (fun V hS => h_all hS.2) Tryz.underlying37 rfl (by exact recSizeL _)) hHeld ?_
  simp only [ly, Act.put]
  refine wpAnyH_ready (rs := [9]) (by kernel_rfl) (by simp) (AllReadyH.cons rfl (fun K hK => ?_) AllReadyH.nil)
  have hK' := hid hK
  clear hK
  rw [if_pos (by kernel_rfl)]
  simp only [ly1, ly2, ly3]
  go_simp
  refine (hSl.out _).mono ?_
  rintro e W2 ⟨rfl, hb⟩
  have hH2 := hid (hH1.out.below hb hH1.out.lt)
  have hJ2 := hid (hJ1.out.below hb hJ1.out.lt)
  have hR2 := hid (hR1.out.on hb)
  have hB2 := hid (bup hb hB1.out)
  clear hb hH1 hJ1 hR1 hB1
  refine hK'.out _ _ (by exact ⟨hJ2.out, hH2.out⟩) (fun hHeld => ?_)
  clear hK' K
  refine tkn 10 (.tuple #[.string t, .int .i64 0]) rfl (by kernel_rfl) (fun _ _ _ h => h) (yieldsIf_move _ rfl rfl rfl) hHeld ?_
  simp only [ly, Act.put]
  refine tkn 11 (.string t) rfl (by kernel_rfl) (fun _ _ _ h => h) (.inl ⟨by kernel_rfl, fun w _ => by go_simp⟩) hHeld ?_
  simp only [ly, Act.put]
  refine tkn 12 (.int .i64 0) rfl (by kernel_rfl) (fun _ _ _ h => h) (.inl ⟨by kernel_rfl, fun w _ => by go_simp⟩) hHeld ?_
  simp only [ly, Act.put]
  refine tkn 13 (.string t) rfl (by kernel_rfl) (fun _ _ _ h => h) (yieldsIf_assign _ rfl rfl rfl) hHeld ?_
  simp only [ly, Act.put]
  refine tkn 14 (.int .i64 0) rfl (by kernel_rfl) (fun _ _ _ h => h) (yieldsIf_assign _ rfl rfl rfl) hHeld ?_
  simp only [ly, Act.put]
  refine wpAnyH_done (by kernel_rfl) ?_ _
  go_wp2_with fail
  have hb : Below W2.heap.size W2 W2.drew := (Below.refl _ _).drew
  have hH3 := hid (hH2.out.below hb hH2.out.lt)
  have hJ3 := hid (hJ2.out.below hb hJ2.out.lt)
  have hR3 := hid (hR2.out.on hb)
  have hB3 := hid (bup hb hB2.out)
  clear hb hH2 hJ2 hR2 hB2
  refine wp_region_held_drew (S := fun V => RJ V j x (st.used : Int) (st.seq : Int) (txt st.prev) ∧ Holds V g 37 (recV R)) (by kernel_rfl) (by exact ⟨hJ3.out, hH3.out⟩) (fun hHeld => ?_)
  generalize W2.drew = W3 at *
  refine tkn 0 (.int .i64 (m : Int)) rfl (by kernel_rfl) (fun _ _ _ h => h) (yieldsIf_move _ rfl rfl rfl) hHeld ?_
  simp only [ly, Act.put]
  refine tkn 1 (.pointer (some ⟨j, 0, none⟩)) rfl (by kernel_rfl) (fun _ _ _ h => h) (yieldsIf_move _ rfl rfl rfl) hHeld ?_
  simp only [ly, Act.put]
  refine tkn 2 (.pointer (some ⟨j, 0, none⟩)) rfl (by kernel_rfl) (fun _ _ _ h => h) (.inl ⟨by kernel_rfl, fun w _ => by go_simp⟩) hHeld ?_
  simp only [ly, Act.put]
  refine tkn 3 (.pointer (some ⟨j, 0, none⟩)) rfl (by kernel_rfl) (fun _ _ _ h => h) (.inl ⟨by kernel_rfl, fun w _ => by go_simp⟩) hHeld ?_
  simp only [ly, Act.put]
  refine tkn 4 (.pointer (some ⟨x, 0, none⟩)) rfl (by kernel_rfl) (fun _ _ _ h => h) (.inl ⟨by kernel_rfl, fun V hS => by have c0 := hS.1.cK 0 _ rfl; go_simp⟩) hHeld ?_
  simp only [ly, Act.put]
  refine tkn 6 (.pointer (some ⟨j, 0, none⟩)) rfl (by kernel_rfl) (fun _ _ _ h => h) (yieldsIf_move _ rfl rfl rfl) hHeld ?_
  simp only [ly, Act.put]
  refine tkn 7 (.pointer (some ⟨j, 0, none⟩)) rfl (by kernel_rfl) (fun _ _ _ h => h) (.inl ⟨by kernel_rfl, fun w _ => by go_simp⟩) hHeld ?_
  simp only [ly, Act.put]
  refine tkn 8 (.pointer (some ⟨j, 1, none⟩)) rfl (by kernel_rfl) (fun _ _ _ h => h) (.inl ⟨by kernel_rfl, fun w _ => by go_simp⟩) hHeld ?_
  simp only [ly, Act.put]
  refine tkn 9 (.int .i64 (st.used : Int)) rfl (by kernel_rfl) (fun _ _ _ h => h) (.inl ⟨by kernel_rfl, fun V hS => by have c1 := hS.1.cK 1 _ rfl; go_simp⟩) hHeld ?_
  simp only [ly, Act.put]
  refine wpAnyH_ready (rs := [5]) (by kernel_rfl) (by simp) (AllReadyH.cons rfl (fun K hK => ?_) AllReadyH.nil)
  have hK' := hid hK
  clear hK
  rw [if_pos (by kernel_rfl)]
  simp only [ly1, ly2, ly3]
  go_simp
  refine (rdSectors_any W3 hR3.out).mono ?_
  rintro e w' ⟨rfl, hw⟩
  obtain rfl := hw.symm
  clear hw
  refine hK'.out _ _ (by exact ⟨hJ3.out, hH3.out⟩) (fun hHeld => ?_)
  clear hK' K
  refine tkn 10 (.int .i64 (fr : Int)) rfl (by kernel_rfl) (fun _ _ _ h => h) (.inl ⟨by kernel_rfl, fun w _ => by go_simp⟩) hHeld ?_
  simp only [ly, Act.put]
  refine tkn 11 (.bool false) rfl (by kernel_rfl) (fun _ _ _ h => h) (.inl ⟨by kernel_rfl, fun w _ => by go_simp⟩) hHeld ?_
  simp only [ly, Act.put]
  refine wpAnyH_done (by kernel_rfl) ?_ _
  go_wp2_with fail
  clear wm wmw wf hgt hle hSl
  go_loopw [8] (fun ix wr => ∃ i : Nat, i ≤ m ∧ ix = .int .i64 (i : Int) ∧ RJ wr j x (st.used : Int) (st.seq : Int) (txt st.prev) ∧ Holds wr g 37 (recV R) ∧ RDisk wr B x g1 c1 g2 c2 g3 n (writeS D st.used t i) ∧ TurnS (RS g1 g2 g3) w wr) (fun ix _ => m - (intOf ix).toNat)
  case atStart => exact ⟨0, Nat.zero_le _, rfl, hJ3.out, hH3.out, hR3.out, .of_below hB3.out⟩
  case round =>
    obtain ⟨i, hi, rfl, hJ, hH, hR, hT⟩ := hrel
    obtain ⟨W40, rfl⟩ : ∃ V, V = wr := ⟨_, rfl⟩
    have hJ40 := hid hJ
    have hH40 := hid hH
    have hR40 := hid hR
    have hT40 := hid hT
    clear hJ hH hR hT hJ3 hH3 hR3 hB3
    by_cases hlt : i < m
    · as_aux_lemma =>
        have hlt' : (i : Int) < (m : Int) := by omega
        have hm9 := hm9'.out
        have h256 := hf256.out
        have hum := hUm.out
        obtain ⟨a, ha⟩ : ∃ a, st.used + i = a := ⟨_, rfl⟩
        obtain ⟨b1, hb1⟩ : ∃ b, i * 64 = b := ⟨_, rfl⟩
        obtain ⟨i1, hi1⟩ : ∃ b, i + 1 = b := ⟨_, rfl⟩
        obtain ⟨b2, hb2⟩ : ∃ b, i1 * 64 = b := ⟨_, rfl⟩
        have q1 : IntKind.i64.wrap ((st.used : Int) + (i : Int)) = (a : Int) := by rw [IntWalk.i64_in _ (by omega)]; omega
        have q2 : IntKind.i64.wrap ((i : Int) * 64) = (b1 : Int) := by rw [IntWalk.i64_in _ (by omega)]; omega
        have q3 : IntKind.i64.wrap ((i : Int) + 1) = (i1 : Int) := by rw [IntWalk.i64_in _ (by omega)]; omega
        have q4 : IntKind.i64.wrap ((i1 : Int) * 64) = (b2 : Int) := by rw [IntWalk.i64_in _ (by omega)]; omega
        have l1 : (b2 : Int) ≤ (t.size : Int) := by have := hts'.out; omega
        have l2 : (b1 : Int) ≤ (b2 : Int) := by omega
        have l3 : (0 : Int) ≤ (b1 : Int) := by omega
        have hs64 := hid (show (t.extract b1 b2).size = 64 from by rw [ByteArray.size_extract]; have := hts'.out; omega)
        have han := hid (show a < n from by omega)
        have hwn := hid (show (writeS D st.used t i).write a (t.extract b1 b2) = writeS D st.used t i1 from by rw [← ha, ← hi1, ← hb2, ← hb1, ← hi1]; rfl)
        have hi1m := hid (show i1 ≤ m ∧ i < i1 from by omega)
        clear ha hb1 hb2 hi1 hm9 h256 hum hi
        obtain ⟨sx, hsx⟩ : ∃ s, t.extract b1 b2 = s := ⟨_, rfl⟩
        rw [hsx] at hs64 hwn
        go_wp2_with fail
        have hb : Below W40.heap.size W40 W40.drew := (Below.refl _ _).drew
        have hJ41 := hid (hJ40.out.below hb hJ40.out.lt)
        have hH41 := hid (hH40.out.below hb hH40.out.lt)
        have hR41 := hid (hR40.out.on hb)
        have hT41 := hid (hT40.out.up hb)
        clear hb hJ40 hH40 hR40 hT40
        refine wp_region_held_drew (S := fun V => RJ V j x (st.used : Int) (st.seq : Int) (txt st.prev) ∧ Holds V g 37 (recV R)) (by kernel_rfl) (by exact ⟨hJ41.out, hH41.out⟩) (fun hHeld => ?_)
        generalize W40.drew = W41 at *
        refine tkn 0 (.pointer (some ⟨j, 0, none⟩)) rfl (by kernel_rfl) (fun _ _ _ h => h) (yieldsIf_move _ rfl rfl rfl) hHeld ?_
        simp only [ly, Act.put]
        refine tkn 1 (.pointer (some ⟨j, 0, none⟩)) rfl (by kernel_rfl) (fun _ _ _ h => h) (.inl ⟨by kernel_rfl, fun w _ => by go_simp⟩) hHeld ?_
        simp only [ly, Act.put]
        refine tkn 2 (.pointer (some ⟨j, 0, none⟩)) rfl (by kernel_rfl) (fun _ _ _ h => h) (.inl ⟨by kernel_rfl, fun w _ => by go_simp⟩) hHeld ?_
        simp only [ly, Act.put]
        refine tkn 3 (.pointer (some ⟨x, 0, none⟩)) rfl (by kernel_rfl) (fun _ _ _ h => h) (.inl ⟨by kernel_rfl, fun V hS => by have c0 := hS.1.cK 0 _ rfl; go_simp⟩) hHeld ?_
        simp only [ly, Act.put]
        refine tkn 4 (.pointer (some ⟨j, 0, none⟩)) rfl (by kernel_rfl) (fun _ _ _ h => h) (yieldsIf_move _ rfl rfl rfl) hHeld ?_
        simp only [ly, Act.put]
        refine tkn 5 (.pointer (some ⟨j, 0, none⟩)) rfl (by kernel_rfl) (fun _ _ _ h => h) (.inl ⟨by kernel_rfl, fun w _ => by go_simp⟩) hHeld ?_
        simp only [ly, Act.put]
        refine tkn 6 (.pointer (some ⟨j, 1, none⟩)) rfl (by kernel_rfl) (fun _ _ _ h => h) (.inl ⟨by kernel_rfl, fun w _ => by go_simp⟩) hHeld ?_
        simp only [ly, Act.put]
        refine tkn 7 (.int .i64 (st.used : Int)) rfl (by kernel_rfl) (fun _ _ _ h => h) (.inl ⟨by kernel_rfl, fun V hS => by have c1 := hS.1.cK 1 _ rfl; go_simp⟩) hHeld ?_
        simp only [ly, Act.put]
        refine tkn 8 (.int .i64 (i : Int)) rfl (by kernel_rfl) (fun _ _ _ h => h) (yieldsIf_move _ rfl rfl rfl) hHeld ?_
        simp only [ly, Act.put]
        refine tkn 9 (.int .i64 (a : Int)) rfl (by kernel_rfl) (fun _ _ _ h => h) (.inl ⟨by kernel_rfl, fun w _ => by go_simp⟩) hHeld ?_
        simp only [ly, Act.put]
        refine tkn 10 (.string t) rfl (by kernel_rfl) (fun _ _ _ h => h) (yieldsIf_move _ rfl rfl rfl) hHeld ?_
        simp only [ly, Act.put]
        refine tkn 11 (.int .i64 (i : Int)) rfl (by kernel_rfl) (fun _ _ _ h => h) (yieldsIf_move _ rfl rfl rfl) hHeld ?_
        simp only [ly, Act.put]
        refine tkn 12 (.int .i64 (b1 : Int)) rfl (by kernel_rfl) (fun _ _ _ h => h) (.inl ⟨by kernel_rfl, fun w _ => by go_simp⟩) hHeld ?_
        simp only [ly, Act.put]
        refine tkn 13 (.int .i64 (i : Int)) rfl (by kernel_rfl) (fun _ _ _ h => h) (yieldsIf_move _ rfl rfl rfl) hHeld ?_
        simp only [ly, Act.put]
        refine tkn 14 (.int .i64 (i1 : Int)) rfl (by kernel_rfl) (fun _ _ _ h => h) (.inl ⟨by kernel_rfl, fun w _ => by go_simp⟩) hHeld ?_
        simp only [ly, Act.put]
        refine tkn 15 (.int .i64 (b2 : Int)) rfl (by kernel_rfl) (fun _ _ _ h => h) (.inl ⟨by kernel_rfl, fun w _ => by go_simp⟩) hHeld ?_
        simp only [ly, Act.put]
        refine tkn 16 (.string sx) rfl (by kernel_rfl) (fun _ _ _ h => h) (.inl ⟨by kernel_rfl, fun w _ => by go_simp⟩) hHeld ?_
        simp only [ly, Act.put]
        refine wpAnyH_ready (rs := [17]) (by kernel_rfl) (by simp) (AllReadyH.cons rfl (fun K hK => ?_) AllReadyH.nil)
        have hK' := hid hK
        clear hK
        rw [if_pos (by kernel_rfl)]
        simp only [ly1, ly2, ly3]
        go_simp
        refine (rdWrite_yes a sx han.out hs64.out W41 hR41.out).mono ?_
        rintro e W42 ⟨rfl, hR, hT⟩
        have hn_ := hid (rj_not hR41.out hJ41.out (by decide) (by decide))
        have hn2_ := hid (rj_not hR41.out hH41.out (by decide) (by decide))
        have hR42 := hid (show RDisk W42 B x g1 c1 g2 c2 g3 n (writeS D st.used t i1) from by rw [← hwn.out]; exact rdisk_write han.out hR)
        have hJ42 := hid (hT.holds hJ41.out hn_.out)
        have hH42 := hid (hT.holds hH41.out hn2_.out)
        have hT42 := hid (hT41.out.trans hT)
        clear hR hT hn_ hn2_ hR41 hJ41 hH41 hT41
        refine hK'.out _ _ (by exact ⟨hJ42.out, hH42.out⟩) (fun hHeld => ?_)
        clear hK' K
        refine wpAnyH_done (by kernel_rfl) ?_ _
        go_wp2_with fail
        go_roundw
        case rel => exact ⟨i1, hi1m.out.1, by go_num, hJ42.out, hH42.out, hR42.out, hT42.out⟩
        case measure => have := hi1m.out; simp [intOf]; omega
    · as_aux_lemma =>
        obtain rfl : i = m := by omega
        have hlt' : ¬ (i : Int) < (i : Int) := by omega
        have cq1 := hJ40.out.cK 1 _ rfl
        have f1 := hJ40.out.frozen 1
        obtain ⟨W41, hW41⟩ : ∃ V, W40.setCell ⟨j, 1, none⟩ (.int .i64 (U1 : Int)) = V := ⟨_, rfl⟩
        have hjg2 := hid (show j ≠ g from by have h1 := hjg.out; have h2 := hg'.out; omega)
        have hn_ := hid (rj_not hR40.out hJ40.out (by decide) (by decide))
        have hJ41 := hid (show RJ W41 j x (U1 : Int) (st.seq : Int) (txt st.prev) from by rw [← hW41]; exact hJ40.out.set 1 _)
        have hH41 := hid (show Holds W41 g 37 (recV R) from by rw [← hW41]; exact hH40.out.far ⟨j, 1, none⟩ (Ne.symm hjg2.out) _)
        have hR41 := hid (show RDisk W41 B x g1 c1 g2 c2 g3 n (writeS D st.used t i) from by rw [← hW41]; exact rd_cell hR40.out hJ40.out hn_.out (by decide) _ _)
        have hT41 := hid (show TurnS (fun k => k = j ∨ RS g1 g2 g3 k) w W41 from by have h0 : TurnS (fun k => k = j ∨ RS g1 g2 g3 k) w W40 := turnS_or hT40.out; rw [← hW41]; exact h0.cell ⟨j, 1, none⟩ (.inl rfl) _)
        have hW41' := hid hW41
        clear hW41 hn_ hJ40 hH40 hR40 hT40
        go_wp2_with fail
        rw [hW41'.out]
        clear cq1 f1 hW41'
        have hb : Below W41.heap.size W41 W41.drew := (Below.refl _ _).drew
        have hJ42 := hid (hJ41.out.below hb hJ41.out.lt)
        have hH42 := hid (hH41.out.below hb hH41.out.lt)
        have hR42 := hid (hR41.out.on hb)
        have hT42 := hid (hT41.out.up hb)
        clear hb hJ41 hH41 hR41 hT41
        refine wp_region_held_drew (S := fun V => (∃ p, RJ V j x (U1 : Int) (st.seq : Int) p) ∧ Holds V g 37 (recV R)) (by kernel_rfl) (by exact ⟨⟨_, hJ42.out⟩, hH42.out⟩) (fun hHeld => ?_)
        generalize W41.drew = W42 at *
        refine tkn 0 (.pointer (some ⟨j, 0, none⟩)) rfl (by kernel_rfl) (fun _ _ _ h => h) (yieldsIf_move _ rfl rfl rfl) hHeld ?_
        simp only [ly, Act.put]
        refine tkn 1 (.pointer (some ⟨j, 0, none⟩)) rfl (by kernel_rfl) (fun _ _ _ h => h) (yieldsIf_move _ rfl rfl rfl) hHeld ?_
        simp only [ly, Act.put]
        refine tkn 2 (.pointer (some ⟨j, 0, none⟩)) rfl (by kernel_rfl) (fun _ _ _ h => h) (.inl ⟨by kernel_rfl, fun w _ => by go_simp⟩) hHeld ?_
        simp only [ly, Act.put]
        refine tkn 3 (.pointer (some ⟨j, 3, none⟩)) rfl (by kernel_rfl) (fun _ _ _ h => h) (.inl ⟨by kernel_rfl, fun w _ => by go_simp⟩) hHeld ?_
        simp only [ly, Act.put]
        refine tkn 5 (.pointer (some ⟨j, 0, none⟩)) rfl (by kernel_rfl) (fun _ _ _ h => h) (yieldsIf_move _ rfl rfl rfl) hHeld ?_
        simp only [ly, Act.put]
        refine tkn 6 (.pointer (some ⟨j, 0, none⟩)) rfl (by kernel_rfl) (fun _ _ _ h => h) (.inl ⟨by kernel_rfl, fun w _ => by go_simp⟩) hHeld ?_
        simp only [ly, Act.put]
        refine tkn 7 (.pointer (some ⟨j, 2, none⟩)) rfl (by kernel_rfl) (fun _ _ _ h => h) (.inl ⟨by kernel_rfl, fun w _ => by go_simp⟩) hHeld ?_
        simp only [ly, Act.put]
        refine tkn 8 (.int .i64 (st.seq : Int)) rfl (by kernel_rfl) (fun _ _ _ h => h) (.inl ⟨by kernel_rfl, fun V hS => by obtain ⟨⟨p, h1⟩, h2⟩ := hS; have c2 := h1.cK 2 _ rfl; go_simp⟩) hHeld ?_
        simp only [ly, Act.put]
        refine tkn 9 (.agg (recV R).toArray) rfl (by kernel_rfl) (fun _ _ _ h => h) (yieldsIf_load_mid (by kernel_rfl) _ _ rfl _ _ rfl _ _ (fun V hS => h_all hS.2) Tryz.underlying37 rfl (by exact recSizeL _)) hHeld ?_
        simp only [ly, Act.put]
        refine wpAnyH_ready (rs := [4]) (by kernel_rfl) (by simp) (AllReadyH.cons rfl (fun K hK => ?_) AllReadyH.nil)
        have hK' := hid hK
        clear hK
        rw [if_pos (by kernel_rfl)]
        simp only [ly1, ly2, ly3]
        have c3 := hJ42.out.cK 3 _ rfl
        go_simp
        clear c3
        refine hK'.out _ _ (by exact ⟨⟨_, hJ42.out⟩, hH42.out⟩) (fun hHeld => ?_)
        clear hK' K
        refine wpAnyH_ready (rs := [10]) (by kernel_rfl) (by simp) (AllReadyH.cons rfl (fun K hK => ?_) AllReadyH.nil)
        have hK' := hid hK
        clear hK
        rw [if_pos (by kernel_rfl)]
        simp only [ly1, ly2, ly3]
        go_simp
        refine (hSe.out _).mono ?_
        rintro e W43 ⟨rfl, hb⟩
        have hJ43 := hid (hJ42.out.below hb hJ42.out.lt)
        have hH43 := hid (hH42.out.below hb hH42.out.lt)
        have hR43 := hid (hR42.out.on hb)
        have hT43 := hid (hT42.out.up hb)
        clear hb hJ42 hH42 hR42 hT42
        refine hK'.out _ _ (by exact ⟨⟨_, hJ43.out⟩, hH43.out⟩) (fun hHeld => ?_)
        clear hK' K
        refine tkn 11 (.pointer (some ⟨j, 0, none⟩)) rfl (by kernel_rfl) (fun _ _ _ h => h) (.inl ⟨by kernel_rfl, fun w _ => by go_simp⟩) hHeld ?_
        simp only [ly, Act.put]
        refine tkn 12 (.pointer (some ⟨j, 3, none⟩)) rfl (by kernel_rfl) (fun _ _ _ h => h) (.inl ⟨by kernel_rfl, fun w _ => by go_simp⟩) hHeld ?_
        simp only [ly, Act.put]
        refine wpAnyH_ready (rs := [13]) (by kernel_rfl) (by simp) (AllReadyH.cons rfl (fun K hK => ?_) AllReadyH.nil)
        have hK' := hid hK
        clear hK
        rw [if_pos (by kernel_rfl)]
        simp only [ly1, ly2, ly3]
        have cq3 := hJ43.out.cK 3 _ rfl
        have f3 := hJ43.out.frozen 3
        go_simp
        clear cq3 f3
        generalize hW : World.setCell _ _ _ = W44
        have hn_ := hid (rj_not hR43.out hJ43.out (by decide) (by decide))
        have hJ44 := hid (show RJ W44 j x (U1 : Int) (st.seq : Int) (txt pv) from by rw [← hW]; exact hJ43.out.set 3 _)
        have hR44 := hid (show RDisk W44 B x g1 c1 g2 c2 g3 n (writeS D st.used t i) from by rw [← hW]; exact rd_cell hR43.out hJ43.out hn_.out (by decide) _ _)
        have hT44 := hid (show TurnS (fun k => k = j ∨ RS g1 g2 g3 k) w W44 from by rw [← hW]; exact hT43.out.cell ⟨j, 3, none⟩ (.inl rfl) _)
        have hH44 := hid (show Holds W44 g 37 (recV R) from by rw [← hW]; exact hH43.out.far ⟨j, 3, none⟩ (Ne.symm hjg2.out) _)
        clear hW hn_ hJ43 hR43 hT43 hH43
        refine hK'.out _ _ (by exact ⟨⟨_, hJ44.out⟩, hH44.out⟩) (fun hHeld => ?_)
        clear hK' K
        refine wpAnyH_done (by kernel_rfl) ?_ _
        have cq2 := hJ44.out.cK 2 _ rfl
        have f2 := hJ44.out.frozen 2
        have hn_ := hid (rj_not hR44.out hJ44.out (by decide) (by decide))
        have hJ99 := hid (hJ44.out.set 2 (.int .i64 (S1 : Int)))
        have hR99 := hid (rd_cell hR44.out hJ44.out hn_.out (by decide) 2 (.int .i64 (S1 : Int)))
        have hT99 := hid (hT44.out.cell ⟨j, 2, none⟩ (.inl rfl) (.int .i64 (S1 : Int)))
        clear hn_ hJ44 hR44 hT44 hH44
        go_wp2_with fail
        go_ret
        refine ⟨rfl, ?_, ?_, hT99.out⟩
        · rw [hRR.out, hps.out]
          exact hJ99.out
        · rw [hRR.out, hMM.out]
          exact hR99.out

end Go.Proofs.YtmgaegaibglnhaaGreat
namespace Go.Proofs.YtmgaegaibglnhaaGreat
open Go.RowKit
open Go.Lib (strCells strCells_length strCells_oneCell)
attribute [local irreducible] Sha.compress Sha.blocks Sha.sha Sha.pad

/-- What holds anything but a disk's sectors, texts, bools, and the journals. -/
def KeepJ (w w' : World) : Prop := ∀ g t cs, Holds w g t cs → t ≠ 112 → t ≠ 9 → t ≠ 4 → t ≠ 101 → t ≠ 105 → Holds w' g t cs
theorem KeepJ.of {w w' : World} (h : KeepD w w') : KeepJ w w' := fun g t cs hg h1 h2 h3 _ _ => h g t cs hg h1 h2 h3
theorem KeepJ.below {w w' : World} (h : Below w.heap.size w w') : KeepJ w w' := fun _ _ _ hg _ _ _ _ _ => hg.below h hg.lt
theorem KeepJ.trans {a b c : World} (h : KeepJ a b) (k : KeepJ b c) : KeepJ a c := fun g t cs hg h1 h2 h3 h4 h5 => k g t cs (h g t cs hg h1 h2 h3 h4 h5) h1 h2 h3 h4 h5
/-- What the program's side keeps, and the document's. -/
def KeepP (w w' : World) : Prop := ∀ g t cs, Holds w g t cs → t ≠ 112 → t ≠ 101 → Holds w' g t cs
def KeepQ (w w' : World) : Prop := ∀ g t cs, Holds w g t cs → t ≠ 9 → t ≠ 4 → t ≠ 105 → Holds w' g t cs
theorem KeepP.j {w w' : World} (h : KeepP w w') : KeepJ w w' := fun g t cs hg h1 _ _ h4 _ => h g t cs hg h1 h4
theorem KeepQ.j {w w' : World} (h : KeepQ w w') : KeepJ w w' := fun g t cs hg _ h2 h3 _ h5 => h g t cs hg h2 h3 h5
section
variable {w w' : World} {L : DL} {D E D' E' : Dk} {j : Nat} {cs : List Value}
theorem TwoD.apart (h : TwoD w L D E) {k : Nat} (hk : k = L.x ∨ k = L.g1 ∨ k = L.g2 ∨ k = L.g3) : k ≠ L.r ∧ k ≠ L.b ∧ k < w.heap.size := by
  have r1 := row_holds h.doc.now h.own.row (by decide)
  have r2 := row_holds h.doc.thn h.own.row (by decide)
  have rx := types_apart h.own.row h.doc.own (by decide)
  have r3 := types_apart h.own.row h.doc.fl_ (by decide)
  have hm : ∀ g, (∃ cs t fr, w.heap[g]? = some (.cells cs t fr)) → g ≠ L.b := fun g ⟨cs, t, fr, hg⟩ e => by
    obtain ⟨es, clock, hb, _⟩ := h.own.map
    rw [e, hb] at hg
    cases hg
  have hrow : ∀ {q c : Nat} {ys : List Value}, w.ownsRow L.B 9 1 (.slice (some ⟨q, 0, none⟩) L.n c) L.n ys → ∃ cs t fr, w.heap[q]? = some (.cells cs t fr) := fun {q c ys} hr => by
    rcases hr.2 with ⟨hv, _⟩ | ⟨g, cap, cur, hv, _, hg, _⟩
    · cases hv
    · injection hv with h1
      injection h1 with h1
      injection h1 with h1
      exact ⟨_, _, _, by rw [h1]; exact hg⟩
  have hk1 : k < w.heap.size := by have := h.doc.lt; omega
  rcases hk with rfl | rfl | rfl | rfl
  · exact ⟨fun e => rx e.symm, hm _ ⟨_, _, _, h.doc.own⟩, hk1⟩
  · exact ⟨fun e => r1 e.symm, hm _ (hrow h.doc.now), hk1⟩
  · exact ⟨fun e => r2 e.symm, hm _ (hrow h.doc.thn), hk1⟩
  · exact ⟨fun e => r3 e.symm, hm _ ⟨_, _, _, h.doc.fl_⟩, hk1⟩
/-- The program turned its disk and its journal. -/
theorem TwoD.mineS (h : TwoD w L D E) (hT : TurnS (JS j L.r L.b) w w') (hJ : Holds w j 101 cs) (hj : L.B ≤ j) (hA : DiskAt w' L.d L.r L.b L.n D') : TwoD w' L D' E ∧ Below L.B w w' ∧ KeepP w w' := by
  refine ⟨⟨hA, h.doc.kept fun k hk => ?_, h.fin, h.lo⟩, hT.below (fun k hs => by have := h.lo; rcases hs with e | e | e <;> omega) h.size, fun g t cs hg h1 h4 => hT.holds hg (fun hs => ?_)⟩
  · obtain ⟨a1, a2, a3⟩ := h.apart hk
    refine hT.block k a3 (fun hs => ?_)
    rcases hs with e | e | e
    · subst e
      rcases hk with e | e | e | e
      · exact types_apart hJ h.doc.own (by decide) e
      · exact rj_not h.doc hJ (by decide) (by decide) (.inl e)
      · exact rj_not h.doc hJ (by decide) (by decide) (.inr (.inl e))
      · exact rj_not h.doc hJ (by decide) (by decide) (.inr (.inr e))
    · exact a1 e
    · exact a2 e
  · rcases hs with e | e | e
    · exact types_apart hg hJ h4 e
    · exact types_apart hg h.own.row h1 e
    · exact map_apart hg h.own.map e
/-- The document turned its disk and its journal. -/
theorem TwoD.docsS (h : TwoD w L D E) (hT : TurnS (fun q => q = j ∨ RS L.g1 L.g2 L.g3 q) w w') (hJ : Holds w j 105 cs) (hj : L.B ≤ j) (hA : RDisk w' L.B L.x L.g1 L.c1 L.g2 L.c2 L.g3 L.n E') (hf : E'.fine L.n) : TwoD w' L D E' ∧ Below L.B w w' ∧ KeepQ w w' := by
  have hne : ∀ {g : Nat} {t : TypeId} {cs : List Value}, Holds w g t cs → t ≠ 9 → t ≠ 4 → t ≠ 105 → ¬ (g = j ∨ RS L.g1 L.g2 L.g3 g) := fun {g t cs} hg h1 h2 h3 hs => by
    rcases hs with e | e
    · exact types_apart hg hJ h3 e
    · exact rj_not h.doc hg h1 h2 e
  refine ⟨⟨⟨hT.holds h.own.own (hne h.own.own (by decide) (by decide) (by decide)), hT.holds h.own.row (hne h.own.row (by decide) (by decide) (by decide)), h.own.map.block (hT.block _ h.own.map.lt fun hs => ?_), h.own.fine, h.own.most, h.own.dr⟩, hA, hf, h.lo⟩, hT.below (fun k hs => ?_) h.size, fun g t cs hg h1 h2 h4 => hT.holds hg (hne hg h1 h2 h4)⟩
  · rcases hs with e | e
    · exact map_apart hJ h.own.map e.symm
    · have hx : L.b = L.x ∨ L.b = L.g1 ∨ L.b = L.g2 ∨ L.b = L.g3 := .inr e
      exact (h.apart hx).2.1 rfl
  · have := h.doc.nB
    rcases hs with e | e | e | e <;> omega
end

/-- Both journals on both disks. -/
structure TJ (w : World) (L : DL) (j k : Nat) (D : Dk) (st : JSt) (E : Dk) (st2 : JSt) : Prop where
  two : TwoD w L D E
  mine : JAt w j L.d st
  docs : RJ w k L.x (st2.used : Int) (st2.seq : Int) (txt st2.prev)
  lo : L.B ≤ j ∧ L.B ≤ k
/-- A journal may stand so on so many sectors. -/
structure StOk (n : Nat) (st : JSt) : Prop where
  len : st.prev.length = 32
  used : st.used ≤ n
  seq : st.seq ≤ 10000
theorem JOk.st {D : Dk} {n : Nat} {l : Stood} {st : JSt} (h : JOk D n l st) (hn : n ≤ 256) : StOk n st := by
  have hb := stand_bound h.fine.secs h.chain
  have := h.fine.len
  exact ⟨hb.1, by omega, by omega⟩
/-- What an Append answers, what the disk holds then, where the journal stands. -/
def apAns (n : Nat) (D : Dk) (st : JSt) (R : Rec) : Int × Dk × JSt :=
  if sealMay (st.seq : Int) R then (if n < st.used + wholes (41 + R.data.size) then (801, D, st) else (0, writeS D st.used (recBytes st.prev st.seq R.kind.toNat R.data) (wholes (41 + R.data.size)), st.pass R (recBytes st.prev st.seq R.kind.toNat R.data)))
  else (800, D, st)
theorem apAns_ok {D : Dk} {n : Nat} {l : Stood} {st : JSt} (h : JOk D n l st) (R : Rec) : ∃ l', JOk (apAns n D st R).2.1 n l' (apAns n D st R).2.2 := by
  unfold apAns
  cases hm : sealMay (st.seq : Int) R with
  | false => exact ⟨l, h⟩
  | true =>
    rw [if_pos rfl]
    by_cases hf : n < st.used + wholes (41 + R.data.size)
    · rw [if_pos hf]
      exact ⟨l, h⟩
    · rw [if_neg hf]
      exact ⟨_, h.append R hm (by omega)⟩
section
variable {w w' : World} {L : DL} {D E D' E' : Dk} {j k : Nat} {st st2 st' : JSt}
theorem TJ.on (h : TJ w L j k D st E st2) (hb : Below w.heap.size w w') : TJ w' L j k D st E st2 := ⟨h.two.on hb, h.mine.below hb h.mine.lt, h.docs.below hb h.docs.lt, h.lo⟩
theorem tjAppend {R : Rec} {c : Int} (e : apAns L.n D st R = (c, D', st')) (hs : StOk L.n st) (h : TJ w L j k D st E st2) :
    Calls Tryz.prog 14 #[.pointer (some ⟨j, 0, none⟩), .agg (recV R).toArray] w fun e w' => e = .returned (.int .i64 c) ∧ TJ w' L j k D' st' E st2 ∧ Below L.B w w' ∧ KeepJ w w' := by
  unfold apAns at e
  have hstay : ∀ {W : World}, Below w.heap.size w W → TJ W L j k D st E st2 ∧ Below L.B w W ∧ KeepJ w W := fun hb => ⟨h.on hb, hb.mono h.two.size, .below hb⟩
  cases hm : sealMay (st.seq : Int) R with
  | false =>
    rw [hm] at e
    obtain ⟨rfl, rfl, rfl⟩ : (800 : Int) = c ∧ D = D' ∧ st = st' := by injection e with a b; injection b with b d; exact ⟨a, b, d⟩
    exact (append_bad j L.d L.r L.b L.n D st hs.len R hm w h.mine h.two.own).mono fun _ _ ⟨he, hb⟩ => ⟨he, hstay hb⟩
  | true =>
    rw [hm, if_pos rfl] at e
    by_cases hf : L.n < st.used + wholes (41 + R.data.size)
    · rw [if_pos hf] at e
      obtain ⟨rfl, rfl, rfl⟩ : (801 : Int) = c ∧ D = D' ∧ st = st' := by injection e with a b; injection b with b d; exact ⟨a, b, d⟩
      exact (append_full j L.d L.r L.b L.n D st hs.len R hm hs.used hf w h.mine h.two.own).mono fun _ _ ⟨he, hb⟩ => ⟨he, hstay hb⟩
    · rw [if_neg hf] at e
      obtain ⟨rfl, e2, e3⟩ : (0 : Int) = c ∧ _ = D' ∧ _ = st' := by injection e with a b; injection b with b d; exact ⟨a, b, d⟩
      have hja : j ≠ L.r ∧ j ≠ L.b ∧ j ≠ L.d := ⟨types_apart h.mine h.two.own.row (by decide), map_apart h.mine h.two.own.map, types_apart h.mine h.two.own.own (by decide)⟩
      refine (append_ok j L.d L.r L.b L.n D st hs.len R hm (by omega) w h.mine h.two.own hja).mono fun _ _ ⟨he, hJ, hD, hT⟩ => ?_
      rw [e2] at hD
      rw [e3] at hJ
      obtain ⟨a1, a2, a3⟩ := h.two.mineS hT h.mine h.lo.1 hD
      exact ⟨he, ⟨a1, hJ, a3 _ _ _ h.docs (by decide) (by decide), h.lo⟩, a2, a3.j⟩
theorem tjAppendR {R : Rec} {c : Int} (hD : E.fine L.n) (e : apAns L.n E st2 R = (c, E', st')) (hs : StOk L.n st2) (h : TJ w L j k D st E st2) :
    Calls Tryz.prog 15 #[.pointer (some ⟨k, 0, none⟩), .agg (recV R).toArray] w fun e w' => e = .returned (.int .i64 c) ∧ TJ w' L j k D st E' st' ∧ Below L.B w w' ∧ KeepJ w w' := by
  unfold apAns at e
  have hstay : ∀ {W : World}, Below w.heap.size w W → TJ W L j k D st E st2 ∧ Below L.B w W ∧ KeepJ w W := fun hb => ⟨h.on hb, hb.mono h.two.size, .below hb⟩
  cases hm : sealMay (st2.seq : Int) R with
  | false =>
    rw [hm] at e
    obtain ⟨rfl, rfl, rfl⟩ : (800 : Int) = c ∧ E = E' ∧ st2 = st' := by injection e with a b; injection b with b d; exact ⟨a, b, d⟩
    exact (rAppend_bad st2 hs.len R hm hs.used hs.seq hD k w h.docs h.two.doc).mono fun _ _ ⟨he, hb⟩ => ⟨he, hstay hb⟩
  | true =>
    rw [hm, if_pos rfl] at e
    by_cases hf : L.n < st2.used + wholes (41 + R.data.size)
    · rw [if_pos hf] at e
      obtain ⟨rfl, rfl, rfl⟩ : (801 : Int) = c ∧ E = E' ∧ st2 = st' := by injection e with a b; injection b with b d; exact ⟨a, b, d⟩
      exact (rAppend_full st2 hs.len R hm hf hs.used hs.seq hD k w h.docs h.two.doc).mono fun _ _ ⟨he, hb⟩ => ⟨he, hstay hb⟩
    · rw [if_neg hf] at e
      obtain ⟨rfl, e2, e3⟩ : (0 : Int) = c ∧ _ = E' ∧ _ = st' := by injection e with a b; injection b with b d; exact ⟨a, b, d⟩
      have hff : E'.fine L.n := by rw [← e2]; exact writeS_fine hD (k := wholes (41 + R.data.size)) (by omega) (recBytes_size _ _ _ _) (Nat.le_refl _)
      refine (rAppend_ok st2 hs.len R hm (by omega) hs.used hs.seq hD k w h.docs h.two.doc).mono fun _ _ ⟨he, hJ, hD, hT⟩ => ?_
      rw [e2] at hD
      rw [e3] at hJ
      obtain ⟨a1, a2, a3⟩ := h.two.docsS hT h.docs h.lo.2 hD hff
      exact ⟨he, ⟨a1, a3 _ _ _ h.mine (by decide) (by decide) (by decide), hJ, h.lo⟩, a2, a3.j⟩
theorem tjSync (h : TJ w L j k D st E st2) : Calls Tryz.prog 16 #[.pointer (some ⟨j, 0, none⟩)] w fun e w' => e = .returned (.int .i64 0) ∧ TJ w' L j k D.sync st E st2 ∧ Below L.B w w' ∧ KeepJ w w' :=
  (jSync_any j L.d L.r L.b L.n D st w h.mine h.two.own).mono fun _ _ ⟨he, hA, hT⟩ => by
    obtain ⟨a1, a2, a3⟩ := h.two.mine hT hA
    exact ⟨he, ⟨a1, a3 _ _ _ h.mine (by decide) (by decide) (by decide), a3 _ _ _ h.docs (by decide) (by decide) (by decide), h.lo⟩, a2, .of a3⟩
theorem tjSyncR (h : TJ w L j k D st E st2) : Calls Tryz.prog 17 #[.pointer (some ⟨L.x, 0, none⟩)] w fun e w' => e = .returned (.tuple #[]) ∧ TJ w' L j k D st E.sync st2 ∧ Below L.B w w' ∧ KeepJ w w' :=
  (tdSyncR h.two).mono fun _ _ ⟨he, a1, a2, a3⟩ => ⟨he, ⟨a1, a3 _ _ _ h.mine (by decide) (by decide) (by decide), a3 _ _ _ h.docs (by decide) (by decide) (by decide), h.lo⟩, a2, .of a3⟩
/-- Both opened anew, on disks of like sectors. -/
theorem tjOpened (h : TwoD w L D E) (hDE : E.xs = D.xs) (hDf : D.fine L.n) : Calls Tryz.prog 13 #[.pointer (some ⟨L.d, 0, none⟩), .pointer (some ⟨L.x, 0, none⟩)] w fun e w' => ∃ (j k : Nat) (D' : Dk) (l : Stood) (st : JSt), e = .returned (.tuple #[.pointer (some ⟨j, 0, none⟩), .pointer (some ⟨k, 0, none⟩), .bool true]) ∧ TJ w' L j k D' st D' st ∧ JOk D' L.n l st ∧ Below L.B w w' ∧ KeepJ w w' := by
  have hOp := hid (open_any L.d L.r L.b L.n D w h.own)
  have h' := hid h
  have hDE' := hid hDE
  have hDf' := hid hDf
  clear h hDE hDf
  go_enter Tryz.func13, Tryz.ntmps13
  go_wp2_with fail
  refine hOp.out.mono ?_
  rintro e W1 ⟨j, A1, n1, l1, st1, hs1, hn1, rfl, hJ1, hO1, hD1, hT1, hj1⟩
  obtain ⟨hTw, hbw, hkw⟩ := h'.out.mine hT1 hD1
  have hB1 := hid hbw
  have hK1 := hid hkw
  have hW1 := hid hTw
  have hJ1' := hid hJ1
  have hO1' := hid hO1
  have hjB := hid (Nat.le_trans h'.out.size hj1)
  have hwW := hid hT1.size
  have hs1' := hid hs1
  have hn1' := hid hn1
  clear hs1 hn1 hJ1 hO1 hD1 hT1 hTw hbw hkw hOp hj1
  try (rename_i hKK; refine hKK _ _ ?_; clear hKK)
  go_wp2_with fail
  refine (rOpen_any hW1.out.fin W1 hW1.out.doc).mono ?_
  rintro e W2 ⟨k, A2, n2, l2, st2, hs2, hn2, rfl, hJ2, hO2, hD2, hT2, hk2⟩
  rw [hDE'.out] at hs2 hn2
  obtain ⟨hbl, rfl⟩ := stands_one hs1'.out hn1'.out hs2 hn2
  obtain rfl := bare_inj hbl
  have hEw : E.wiped st1.used = D.wiped st1.used := by unfold Dk.wiped; rw [hDE'.out]
  rw [hEw] at hD2
  have hus := hid (show st1.used ≤ L.n from by have h1 := (stand_bound hDf'.out.secs hs1'.out).2.2.1; have h2 := hDf'.out.len; omega)
  obtain ⟨hTw, hbw, hkw⟩ := hW1.out.docs hT2 hD2 (wiped_fine hDf'.out _ hus.out)
  have hok := hid (JOk.wiped hDf'.out hs1'.out)
  have hb2 := hid hbw
  have hJ1 := hid (hkw _ _ _ hJ1'.out (by decide) (by decide) (by decide))
  have hO1 := hid (row_turnS hO1'.out hT2 (fun k hk => by have h1 := h'.out.doc.lt; rcases hk with e | e | e <;> omega))
  have hK2 := hid ((KeepJ.of hK1.out).trans (.of hkw))
  have hT := hid (show TJ W2 L j k (D.wiped st1.used) st1 (D.wiped st1.used) st1 from ⟨hTw, hJ1.out, hJ2, hjB.out, Nat.le_trans h'.out.size (Nat.le_trans hwW.out hk2)⟩)
  have hO2' := hid hO2
  have hB2 := hid (hB1.out.trans hbw)
  have hll := hid (show l1.length ≤ 10000000000000 from by have h1 := stand_bound hDf'.out.secs hs1'.out; have h2 := hDf'.out.len; have h3 := h'.out.own.most; omega)
  clear hs2 hn2 hbl hEw hTw hbw hkw hD2 hT2 hJ2 hO2 hk2 hB1 hK1 hW1 hJ1' hO1' hs1' hn1' hJ1 hb2 hus
  try (rename_i hKK; refine hKK _ _ ?_; clear hKK)
  go_wp2_with (first
    | (go_at_call 11; refine (errNum_any _ _).mono ?_; rintro e w' ⟨rfl, rfl⟩)
    | (go_at_call 45; refine (sameRecs_any A1 A2 l1.length n1 n2 (l1.map (·.1.1)) _ (RecsA.of_row hO1.out) (RecsA.of_row hO2'.out) hll.out).mono ?_; rintro e W3 ⟨rfl, hb⟩; have hT3 := hid (hT.out.on hb); have hB3 := hid (hB2.out.trans (hb.mono hT.out.two.size)); have hK3 := hid (hK2.out.trans (.below hb)); clear hb)
    | fail)
  exact bodyPost_ret (results_ttt rfl _ _ (.pointer (some ⟨j, 0, none⟩)) (.pointer (some ⟨k, 0, none⟩)) (.bool true) rfl rfl rfl) rfl ⟨j, k, _, l1, st1, rfl, hT3.out, hok.out, hB3.out, hK3.out⟩
end

end Go.Proofs.YtmgaegaibglnhaaGreat
namespace Go.Proofs.YtmgaegaibglnhaaGreat
open Go.RowKit
open Go.Lib (strCells strCells_length strCells_oneCell)

/-- An act: its kind, a record, what a crash keeps, a place, a text. -/
structure JAct where
  kind : Int
  r : Rec
  keep : Int
  at_ : Int
  s : ByteArray
def JAct.cells (a : JAct) : List Value := [.int .i64 a.kind, .int .i64 a.r.kind, .string a.r.data, .int .i64 a.keep, .int .i64 a.at_, .string a.s]
/-- The slice at A reads as these acts. -/
def JActs (w : World) (B : Nat) (A : Option Addr) (n : Nat) (xs : List JAct) : Prop :=
  xs.length = n ∧ (n = 0 ∨ ∃ p : Addr, A = some p ∧ p.block < B ∧ ∀ i (hi : i < xs.length), ∀ j v, xs[i].cells[j]? = some v → w.cell? ((p.add (i * 6)).add j) = some v)
theorem JActs.below {w w' : World} {B : Nat} {A : Option Addr} {n : Nat} {xs : List JAct} (h : JActs w B A n xs) (hb : Below B w w') : JActs w' B A n xs := by
  obtain ⟨h1, h3⟩ := h
  refine ⟨h1, ?_⟩
  rcases h3 with h3 | ⟨p, hA, hB, hc⟩
  · exact .inl h3
  · exact .inr ⟨p, hA, hB, fun i hi j v hv => (hb.cell (by rw [add_block, add_block]; exact hB)).trans (hc i hi j v hv)⟩
theorem JActs.get {w : World} {B : Nat} {A : Option Addr} {n : Nat} {xs : List JAct} (h : JActs w B A n xs) {i : Nat} (hi : i < n) : ∃ (p : Addr) (x : JAct), A = some p ∧ p.block < B ∧ ∀ j v, x.cells[j]? = some v → w.cell? ((p.add (i * 6)).add j) = some v := by
  obtain ⟨h1, h3 | ⟨p, hA, hB, hc⟩⟩ := h
  · omega
  · exact ⟨p, xs[i]'(by omega), hA, hB, hc i (by omega)⟩
theorem list5 {α : Type _} : ∀ {l : List α}, l.length = 5 → ∃ a b c d e, l = [a, b, c, d, e]
  | [a, b, c, d, e], _ => ⟨a, b, c, d, e, rfl⟩
theorem list6 {α : Type _} : ∀ {l : List α}, l.length = 6 → ∃ a b c d e f, l = [a, b, c, d, e, f]
  | [a, b, c, d, e, f], _ => ⟨a, b, c, d, e, f, rfl⟩
theorem jact_cells {cs : List Value} {v0 v2 v3 v4 : Value} {r : Rec} (hl : cs.length = 6) (h0 : (cs.drop 0).take 1 = [v0]) (h1 : (cs.drop 1).take 2 = recV r) (h2 : (cs.drop 3).take 1 = [v2]) (h3 : (cs.drop 4).take 1 = [v3]) (h4 : (cs.drop 5).take 1 = [v4]) : [v0, .int .i64 r.kind, .string r.data, v2, v3, v4] = cs := by
  obtain ⟨a, b, c, d, e, f, rfl⟩ := list6 hl
  simp [recV] at h0 h1 h2 h3 h4
  simp [h0, h1, h2, h3, h4]

section
variable {H : Type} {enc : TypeId × Value → H} {w : World} {base : Nat} {spare : Nat → Bool} {held : Bool}
open Go.ChangeShapes Go.WideShapes Go.Deep

theorem open_jact {fuel : Nat} {cs : List Value} {x : DataW H × List MemPlace} (h : DataW.trod enc Tryz.prog w base spare held fuel 39 cs = some x) : ∃ a : JAct, a.cells = cs := by
  have hC : Tryz.prog.cellsOf 39 = 6 := by kernel_rfl
  have hI : Tryz.prog.cellsOf 3 = 1 := by kernel_rfl
  have hS : Tryz.prog.cellsOf 9 = 1 := by kernel_rfl
  have hR : Tryz.prog.cellsOf 37 = 2 := by kernel_rfl
  obtain ⟨ys, n, _, hx, hl, hlen, hf⟩ := DataW.trod_struct Tryz.underlying39 h
  rw [hC] at hl
  have hlen' : ys.length = 5 := hlen
  have g0 := hf 0 _ rfl
  change DataW.trod enc Tryz.prog w base spare held n 3 ((cs.drop 0).take (Tryz.prog.cellsOf 3)) = _ at g0
  rw [hI] at g0
  have g1 := hf 1 _ rfl
  change DataW.trod enc Tryz.prog w base spare held n 37 ((cs.drop 1).take (Tryz.prog.cellsOf 37)) = _ at g1
  rw [hR] at g1
  have g2 := hf 2 _ rfl
  change DataW.trod enc Tryz.prog w base spare held n 3 ((cs.drop 3).take (Tryz.prog.cellsOf 3)) = _ at g2
  rw [hI] at g2
  have g3 := hf 3 _ rfl
  change DataW.trod enc Tryz.prog w base spare held n 3 ((cs.drop 4).take (Tryz.prog.cellsOf 3)) = _ at g3
  rw [hI] at g3
  have g4 := hf 4 _ rfl
  change DataW.trod enc Tryz.prog w base spare held n 9 ((cs.drop 5).take (Tryz.prog.cellsOf 9)) = _ at g4
  rw [hS] at g4
  obtain ⟨y0, y1, y2, y3, y4, rfl⟩ := list5 hlen'
  obtain ⟨k, h0, _, _⟩ := DataW.trod_int Tryz.underlying3 g0
  obtain ⟨r, h1⟩ := open_rec (x := y1) g1
  obtain ⟨p, h2, _, _⟩ := DataW.trod_int Tryz.underlying3 g2
  obtain ⟨q, h3, _, _⟩ := DataW.trod_int Tryz.underlying3 g3
  obtain ⟨s, h4, _, _⟩ := DataW.trod_string Tryz.underlying9 g4
  exact ⟨⟨k, r, p, q, s⟩, jact_cells hl h0 h1 h2 h3 h4⟩
theorem open_jacts {fuel : Nat} {x : DataW H × List MemPlace} {A : Option Addr} {len cap : Nat} (h : DataW.trod enc Tryz.prog w base spare held fuel 22 [.slice A len cap] = some x) (hlt : ∀ y ∈ x.2, y.block < w.heap.size) : ∃ xs, JActs w w.heap.size A len xs ∧ len ≤ maxLen := by
  have hC : Tryz.prog.cellsOf 39 = 6 := by kernel_rfl
  rcases open_slice Tryz.underlying22 h with ⟨hcs, _⟩ | ⟨a, l, c, m, n, D, Pl, hcs, hb, hl, hm, hmm, hx, hi⟩
  · simp at hcs
    obtain ⟨rfl, rfl, rfl⟩ := hcs
    exact ⟨[], ⟨rfl, .inl rfl⟩, Nat.zero_le _⟩
  · simp at hcs
    obtain ⟨rfl, rfl, rfl⟩ := hcs
    have hlm : len ≤ m := by
      rw [hmm]
      split
      · exact hl
      · exact Nat.le_refl _
    have hex : ∀ i, i < len → ∃ b : JAct, ∀ j v, b.cells[j]? = some v → w.cell? ((a.add (i * 6)).add j) = some v := by
      intro i hil
      obtain ⟨cs', hc, ht⟩ := hi i (by omega)
      rw [hC] at hc
      obtain ⟨_, hcl, hat⟩ := World.cells?_some hc
      obtain ⟨b, hbc⟩ := open_jact ht
      refine ⟨b, fun j v hv => ?_⟩
      rw [hbc] at hv
      have hj : j < 6 := by
        have := (List.getElem?_eq_some_iff.1 hv).1
        omega
      rw [hat j hj, hv]
    let g : Nat → JAct := fun i => if hil : i < len then Classical.choose (hex i hil) else ⟨0, ⟨0, ByteArray.empty⟩, 0, 0, ByteArray.empty⟩
    have hg : ∀ i (hil : i < len), ∀ j v, (g i).cells[j]? = some v → w.cell? ((a.add (i * 6)).add j) = some v := by
      intro i hil
      have : g i = Classical.choose (hex i hil) := by simp [g, hil]
      rw [this]
      exact Classical.choose_spec (hex i hil)
    refine ⟨(List.range len).map g, ⟨by simp, ?_⟩, Nat.le_trans hl hm⟩
    · rcases Nat.eq_zero_or_pos len with h0 | h0
      · exact .inl h0
      · refine .inr ⟨a, rfl, ?_, ?_⟩
        · have := hlt (.cell a.block a.off) (by
            rw [hx, hC]
            exact List.mem_append_left _ (row_head a (m * 6) (by omega)))
          exact this
        · intro i hi j v hv
          have hil : i < len := by simpa using hi
          simp only [List.getElem_map, List.getElem_range] at hv
          exact hg i hil j v hv
end

end Go.Proofs.YtmgaegaibglnhaaGreat
namespace Go.Proofs.YtmgaegaibglnhaaGreat
open Go.RowKit
open Go.Lib (strCells strCells_length strCells_oneCell)
attribute [local irreducible] Sha.compress Sha.blocks Sha.sha Sha.pad

def zAj : Array Value := #[.int .i64 0, .int .i64 0, .string ⟨#[]⟩, .int .i64 0, .int .i64 0, .string ⟨#[]⟩]
theorem ja_there (W : World) (cs : Array Value) (h : cs.size = 6) : (W.alloc (.cells zAj 39)).there W.heap.size 0 cs.size := (Holds.new W 39 zAj).there 0 _ (by rw [h]; exact Nat.le_refl 6)
theorem ja_new {a : JAct} {W W7 : World} (h : (W.alloc (.cells zAj 39)).setCells W.heap.size 0 a.cells = W7) : Holds W7 W.heap.size 39 a.cells ∧ Below W.heap.size W W7 := by
  have hH := Holds.new W 39 zAj
  have hb : Below W.heap.size W (W.alloc (.cells zAj 39)) := (Below.refl _ _).alloc (Nat.le_refl _) _
  refine ⟨?_, below_store hb (Nat.le_refl _) h⟩
  have h1 := hH.put 0 a.cells (Nat.le_refl 6)
  have e := put_all zAj.toList a.cells rfl
  rw [h, e] at h1
  exact h1
theorem ja_size (a : JAct) : (Tryz.prog.info? 39).map (·.size) = some a.cells.length := by show (Tryz.prog.info? 39).map (·.size) = some 6; kernel_rfl
theorem ja_one (a : JAct) : a.cells.toArray.all (·.oneCell') = true := all_oneCell_toArray (fun v hv => by
  unfold JAct.cells at hv
  simp at hv
  rcases hv with rfl | rfl | rfl | rfl | rfl | rfl <;> rfl)
theorem ja_rec {W : World} {g : Nat} {a : JAct} (h : Holds W g 39 a.cells) : ∀ j v, (recV a.r)[j]? = some v → W.cell? ((⟨g, 1, none⟩ : Addr).add j) = some v := fun j v hv => by
  rw [show (⟨g, 1, none⟩ : Addr).add j = ⟨g, 1 + j, none⟩ from by unfold Addr.add; split <;> simp_all, h.cell]
  have e : a.cells = .int .i64 a.kind :: (recV a.r ++ [.int .i64 a.keep, .int .i64 a.at_, .string a.s]) := rfl
  rw [e, Nat.add_comm 1 j, List.getElem?_cons_succ, List.getElem?_append_left (List.getElem?_eq_some_iff.1 hv).1]
  exact hv
theorem row_lessJ {w : World} {B B' x g1 c1 g2 c2 g3 n : Nat} {now thn : List ByteArray} {fl : List Bool} (h : RDiskAt w B x g1 c1 g2 c2 g3 n now thn fl) (hB : B' ≤ B) : RDiskAt w B' x g1 c1 g2 c2 g3 n now thn fl :=
  ⟨h.own, row_less h.now hB, row_less h.thn hB, h.fl_, h.fll, h.n12, h.most, h.pos, by have := h.nB; omega⟩
theorem wr_fine {n : Nat} {D D' : Dk} {at_ c : Int} {s : ByteArray} (h : D.fine n) (e : wrAns n D at_ s = (c, D')) : D'.fine n := by
  unfold wrAns at e
  by_cases hc : 0 ≤ at_ ∧ at_ < (n : Int) ∧ s.size = 64
  · rw [if_pos hc] at e
    injection e with e1 e2
    rw [← e2]
    exact h.write (by omega) hc.2.2
  · rw [if_neg hc] at e
    injection e with e1 e2
    rw [← e2]
    exact h
theorem tjUsed {w : World} {L : DL} {j k : Nat} {D E : Dk} {st st2 : JSt} (hp : st.prev.length = 32) (h : TJ w L j k D st E st2) : Calls Tryz.prog 22 #[.pointer (some ⟨j, 0, none⟩)] w fun e w' => e = .returned (.int .i64 (st.used : Int)) ∧ w' = w := jUsed_any j L.d st hp w h.mine
theorem tjUsedR {w : World} {L : DL} {j k : Nat} {D E : Dk} {st st2 : JSt} (h : TJ w L j k D st E st2) : Calls Tryz.prog 23 #[.pointer (some ⟨k, 0, none⟩)] w fun e w' => e = .returned (.int .i64 (st2.used : Int)) ∧ w' = w := rUsed_any k L.x _ _ _ w h.docs
theorem tjDirty {w : World} {L : DL} {j k : Nat} {D E : Dk} {st st2 : JSt} (h : TJ w L j k D st E st2) : Calls Tryz.prog 24 #[.pointer (some ⟨L.d, 0, none⟩)] w fun e w' => e = .returned (.int .i64 (D.old.length : Int)) ∧ w' = w := (dkDirty_any _ _ _ _ D w h.two.own).mono fun _ _ ⟨a, b⟩ => ⟨a, b.symm⟩
theorem tjDirtyR {w : World} {L : DL} {j k : Nat} {D E : Dk} {st st2 : JSt} (h : TJ w L j k D st E st2) : Calls Tryz.prog 25 #[.pointer (some ⟨L.x, 0, none⟩)] w fun e w' => e = .returned (.int .i64 (E.old.length : Int)) ∧ w' = w := (rdDirty_any h.two.fin w h.two.doc).mono fun _ _ ⟨a, b⟩ => ⟨a, b.symm⟩

set_option maxRecDepth 100000 in
set_option maxHeartbeats 4000000 in
theorem JournalActs_law {w : World} (most : Int) (A : Option Addr) (len cap : Nat) (xs : List JAct) (hX : JActs w w.heap.size A len xs) (_ : len ≤ maxLen) :
    Calls Tryz.prog 3 #[.int .i64 most, .slice A len cap] w fun e w' => e = .returned (.bool true) ∧ Below w.heap.size w w' := by
  by_cases hm : 1 ≤ most ∧ most ≤ 256
  · obtain ⟨n, rfl⟩ : ∃ n : Nat, most = (n : Int) := ⟨most.toNat, by omega⟩
    have n1 : 1 ≤ n := by omega
    have n2 : n ≤ 256 := by omega
    have hN := hid (dkNew_yes n n1 n2 w)
    have hM := hid (fun V => rdNew_yes n n1 n2 V)
    have hX' := hid hX
    have hn256 := hid n2
    clear hX hm n1 n2
    go_enter Tryz.func3, Tryz.ntmps3
    go_wp2_with fail
    refine hN.out.mono ?_
    rintro e W1 ⟨rfl, hS, hb⟩
    have hS1 := hid hS
    have hb1 := hid hb
    clear hS hb
    try (rename_i hKK; refine hKK _ _ ?_; clear hKK)
    go_wp2_with fail
    refine (hM.out _).mono ?_
    rintro e W2 ⟨g1, c1, g2, c2, rfl, hR, hb⟩
    have hR := row_lessJ hR hb1.out.size
    obtain ⟨L, hL⟩ : ∃ L : DL, L = ⟨w.heap.size, w.heap.size + 2, w.heap.size, w.heap.size + 1, W1.heap.size + 1, g1, c1, g2, c2, W1.heap.size, n⟩ := ⟨_, rfl⟩
    have hT2 := hid (show TwoD W2 L (Dk.new n) (Dk.new n) from by rw [hL]; exact ⟨hS1.out.on hb, hR, Dk.fine.new n, Nat.le_refl _, Nat.le_succ _⟩)
    have hB2 := hid (hb1.out.trans (hb.mono hb1.out.size))
    have hLB := hid (show L.B = w.heap.size from by rw [hL])
    have hLn := hid (show L.n = n from by rw [hL])
    have e1 : w.heap.size + 2 = L.d := by rw [hL]
    have e2 : W1.heap.size + 1 = L.x := by rw [hL]
    rw [e2]
    try (rename_i hKK; refine hKK _ _ ?_; clear hKK)
    rw [e1]
    clear hR hb hS1 hb1 hN hM hL e1 e2
    go_wp2_with (go_at_call 11; refine (errNum_any _ _).mono ?_; rintro e w' ⟨rfl, rfl⟩)
    refine (tjOpened hT2.out rfl (by rw [hLn.out]; exact Dk.fine.new n)).mono ?_
    rintro e W3 ⟨j, k, D, l, st, rfl, hT, hok, hb, -⟩
    rw [hLB.out] at hb
    have hT3 := hid hT
    have hB3 := hid (hB2.out.trans hb)
    have hok3 := hid hok
    clear hT hok hb hT2 hB2
    try (rename_i hKK; refine hKK _ _ ?_; clear hKK)
    go_wp2_with fail
    go_loopw [9, 10, 11, 12] (fun jv kv ov ix wr => ∃ (i j k : Nat) (D : Dk) (l : Stood) (st : JSt), i ≤ 50 ∧ jv = .pointer (some ⟨j, 0, none⟩) ∧ kv = .pointer (some ⟨k, 0, none⟩) ∧ ov = .bool true ∧ ix = .int .i64 (i : Int) ∧ JOk D L.n l st ∧ TJ wr L j k D st D st ∧ Below w.heap.size w wr) (fun _ _ _ ix _ => 50 - (intOf ix).toNat)
    case atStart => exact ⟨0, j, k, D, l, st, by omega, rfl, rfl, rfl, rfl, hok3.out, hT3.out, hB3.out⟩
    case round =>
      clear hok3 hT3 hB3
      obtain ⟨i, j, k, D, l, st, hi, rfl, rfl, rfl, rfl, hok, hTr, hBr⟩ := hrel
      obtain ⟨W10, rfl⟩ : ∃ V, V = wr := ⟨_, rfl⟩
      have hT10 := hid hTr
      have hB10 := hid hBr
      have hok' := hid hok
      have hst := hid (hok.st (by rw [hLn.out]; exact hn256.out))
      clear hTr hBr hok
      by_cases hlt : i < len ∧ i < 50
      · obtain ⟨hl1, hl2⟩ := hlt
        have hl1' : (i : Int) < (len : Int) := by omega
        have hl2' : (i : Int) < 50 := by omega
        have s3 : (0 : Int) ≤ (i : Int) := by omega
        have hiw := IntWalk.i64_in ((i : Int) + 1) (by omega)
        obtain ⟨p, a, rfl, hpB, hc⟩ := (hX'.out.below hB10.out).get hl1
        have hc' := hid hc
        obtain ⟨kd, R, kp, at_, sx⟩ := a
        have hac := hid (ja_size ⟨kd, R, kp, at_, sx⟩)
        clear hc hpB
        by_cases hk6 : kd < 6
        · skip
          obtain ⟨⟨c, D2, st2⟩, hap⟩ : ∃ z, apAns L.n D st R = z := ⟨_, rfl⟩
          obtain ⟨l2, hok2⟩ := apAns_ok hok'.out R
          rw [hap] at hok2
          have hok2' := hid (show JOk D2 L.n l2 st2 from hok2)
          have hst2 := hid (hok2'.out.st (by rw [hLn.out]; exact hn256.out))
          have hap' := hid hap
          clear hap hok2
          go_wp2_with (first
            | ((with_reducible refine at_slot (some 71) ?_); refine wpList_load_any rfl 39 (.tmp 70) rfl (p.add (i * 6)) rfl (JAct.cells ⟨kd, R, kp, at_, sx⟩) _ (by exact hc'.out) Tryz.underlying39 rfl (by exact hac.out) ?_)
            | ((with_reducible refine at_slot (some 13) ?_); refine wpList_run rfl (.pointer (some ⟨W10.heap.size, 0, none⟩)) (W10.alloc (.cells zAj 39)) (by kernel_rfl) ?_)
            | ((with_reducible refine at_slot none ?_); refine wpList_store_mid rfl 39 (.tmp 13) (.tmp 71) rfl W10.heap.size 0 (JAct.cells ⟨kd, R, kp, at_, sx⟩).toArray rfl rfl (by exact ja_there W10 _ rfl) (by exact hac.out) (by exact ja_one _) ?_; generalize hW : World.setCells _ _ _ _ = W11; obtain ⟨hN, hb⟩ := ja_new hW; have hT11 := hid (hT10.out.on hb); have hB11 := hid (bup hb hB10.out); have hX11 := hid hN; clear hb hT10 hB10 hN; clear hW; have q0 := hX11.out.cK 0 _ rfl; have q3 := hX11.out.cK 3 _ rfl; have q4 := hX11.out.cK 4 _ rfl; have q5 := hX11.out.cK 5 _ rfl)
            | ((with_reducible refine at_slot (some 111) ?_); refine wpList_load_any rfl 37 (.tmp 110) rfl ⟨W10.heap.size, 1, none⟩ rfl (recV R) _ (by exact ja_rec hX11.out) Tryz.underlying37 rfl (by exact recSizeL _) ?_)
            | fail)
          obtain ⟨gx, hgx⟩ : ∃ g, W10.heap.size = g := ⟨_, rfl⟩
          rw [hgx] at hX11 q0 q3 q4 q5 ⊢
          clear hgx
          try clear q0 q3 q4 q5
          refine (tjAppend hap'.out hst.out hT11.out).mono ?_
          rintro e W12 ⟨rfl, hT, hb, hkk⟩
          rw [hLB.out] at hb
          have hT12 := hid hT
          have hB12 := hid (hB11.out.trans hb)
          have hX12 := hid (hkk _ _ _ hX11.out (by decide) (by decide) (by decide) (by decide) (by decide))
          clear hT hb hkk hT11 hB11 hX11
          try (rename_i hKK; refine hKK _ _ ?_; clear hKK)
          go_wp2_with fail
          have hb : Below W12.heap.size W12 W12.drew := (Below.refl _ _).drew
          have hT13 := hid (hT12.out.on hb)
          have hB13 := hid (bup hb hB12.out)
          have hX13 := hid (hX12.out.below hb hX12.out.lt)
          clear hb hT12 hB12 hX12
          refine wp_region_held_drew (S := fun V => Holds V gx 39 (JAct.cells ⟨kd, R, kp, at_, sx⟩)) (by kernel_rfl) (by exact hX13.out) (fun hHeld => ?_)
          generalize W12.drew = W13 at *
          refine tkn 0 (.int .i64 c) rfl (by kernel_rfl) (fun _ _ _ h => h) (yieldsIf_move _ rfl rfl rfl) hHeld ?_
          simp only [ly, Act.put]
          refine tkn 2 (.pointer (some ⟨k, 0, none⟩)) rfl (by kernel_rfl) (fun _ _ _ h => h) (yieldsIf_move _ rfl rfl rfl) hHeld ?_
          simp only [ly, Act.put]
          refine tkn 3 (.pointer (some ⟨gx, 1, none⟩)) rfl (by kernel_rfl) (fun _ _ _ h => h) (.inl ⟨by kernel_rfl, fun w _ => by go_simp⟩) hHeld ?_
          simp only [ly, Act.put]
          refine tkn 4 (.agg (recV R).toArray) rfl (by kernel_rfl) (fun _ _ _ h => h) (yieldsIf_load_any (by kernel_rfl) _ _ rfl ⟨gx, 1, none⟩ rfl (recV R) _ (fun V hS => ja_rec hS) Tryz.underlying37 rfl (by exact recSizeL _)) hHeld ?_
          simp only [ly, Act.put]
          refine wpAnyH_ready (rs := [1]) (by kernel_rfl) (by simp) (AllReadyH.cons rfl (fun K hK => ?_) AllReadyH.nil)
          have hK' := hid hK
          clear hK
          rw [if_pos (by kernel_rfl)]
          simp only [ly1, ly2, ly3]
          go_simp
          refine (errNum_any _ _).mono ?_
          rintro e w' ⟨rfl, rfl⟩
          refine hK'.out _ _ (by exact hX13.out) (fun hHeld => ?_)
          clear hK' K
          refine wpAnyH_ready (rs := [5]) (by kernel_rfl) (by simp) (AllReadyH.cons rfl (fun K hK => ?_) AllReadyH.nil)
          have hK' := hid hK
          clear hK
          rw [if_pos (by kernel_rfl)]
          simp only [ly1, ly2, ly3]
          go_simp
          refine (tjAppendR hok'.out.fine hap'.out hst.out hT13.out).mono ?_
          rintro e W14 ⟨rfl, hT, hb, hkk⟩
          rw [hLB.out] at hb
          have hT14 := hid hT
          have hB14 := hid (hB13.out.trans hb)
          have hX14 := hid (hkk _ _ _ hX13.out (by decide) (by decide) (by decide) (by decide) (by decide))
          clear hT hb hkk hT13 hB13 hX13
          refine hK'.out _ _ (by exact hX14.out) (fun hHeld => ?_)
          clear hK' K
          refine tkn 6 (.bool true) rfl (by kernel_rfl) (fun _ _ _ h => h) (.inl ⟨by kernel_rfl, fun w _ => by go_simp⟩) hHeld ?_
          simp only [ly, Act.put]
          refine tkn 7 (.bool true) rfl (by kernel_rfl) (fun _ _ _ h => h) (yieldsIf_assign _ rfl rfl rfl) hHeld ?_
          simp only [ly, Act.put]
          refine wpAnyH_done (by kernel_rfl) ?_ _
          try clear q0 q3 q4 q5
          go_wp2_with fail
          refine (tjUsed hst2.out.len hT14.out).mono ?_
          rintro e w' ⟨rfl, hw⟩
          obtain rfl := hw.symm
          clear hw
          try (rename_i hKK; refine hKK _ _ ?_; clear hKK)
          go_wp2_with fail
          refine (tjUsedR hT14.out).mono ?_
          rintro e w' ⟨rfl, hw⟩
          obtain rfl := hw.symm
          clear hw
          try (rename_i hKK; refine hKK _ _ ?_; clear hKK)
          go_wp2_with fail
          refine (tjDirty hT14.out).mono ?_
          rintro e w' ⟨rfl, hw⟩
          obtain rfl := hw.symm
          clear hw
          try (rename_i hKK; refine hKK _ _ ?_; clear hKK)
          go_wp2_with fail
          refine (tjDirtyR hT14.out).mono ?_
          rintro e w' ⟨rfl, hw⟩
          obtain rfl := hw.symm
          clear hw
          try (rename_i hKK; refine hKK _ _ ?_; clear hKK)
          go_wp2_with fail
          go_roundw
          case rel => exact ⟨i + 1, j, k, D2, l2, st2, by omega, rfl, rfl, rfl, by go_num, hok2'.out, hT14.out, hB14.out⟩
          case measure => simp [intOf]; omega
        · by_cases hk8 : kd < 8
          · skip
            go_wp2_with (first
              | ((with_reducible refine at_slot (some 71) ?_); refine wpList_load_any rfl 39 (.tmp 70) rfl (p.add (i * 6)) rfl (JAct.cells ⟨kd, R, kp, at_, sx⟩) _ (by exact hc'.out) Tryz.underlying39 rfl (by exact hac.out) ?_)
              | ((with_reducible refine at_slot (some 13) ?_); refine wpList_run rfl (.pointer (some ⟨W10.heap.size, 0, none⟩)) (W10.alloc (.cells zAj 39)) (by kernel_rfl) ?_)
              | ((with_reducible refine at_slot none ?_); refine wpList_store_mid rfl 39 (.tmp 13) (.tmp 71) rfl W10.heap.size 0 (JAct.cells ⟨kd, R, kp, at_, sx⟩).toArray rfl rfl (by exact ja_there W10 _ rfl) (by exact hac.out) (by exact ja_one _) ?_; generalize hW : World.setCells _ _ _ _ = W11; obtain ⟨hN, hb⟩ := ja_new hW; have hT11 := hid (hT10.out.on hb); have hB11 := hid (bup hb hB10.out); have hX11 := hid hN; clear hb hT10 hB10 hN; clear hW; have q0 := hX11.out.cK 0 _ rfl; have q3 := hX11.out.cK 3 _ rfl; have q4 := hX11.out.cK 4 _ rfl; have q5 := hX11.out.cK 5 _ rfl)
              | fail)
            obtain ⟨gx, hgx⟩ : ∃ g, W10.heap.size = g := ⟨_, rfl⟩
            rw [hgx] at hX11 q0 q3 q4 q5 ⊢
            clear hgx
            try clear q0 q3 q4 q5
            refine (tjSync hT11.out).mono ?_
            rintro e W12 ⟨rfl, hT, hb, hkk⟩
            rw [hLB.out] at hb
            have hT12 := hid hT
            have hB12 := hid (hB11.out.trans hb)
            have hX12 := hid (hkk _ _ _ hX11.out (by decide) (by decide) (by decide) (by decide) (by decide))
            clear hT hb hkk hT11 hB11 hX11
            try (rename_i hKK; refine hKK _ _ ?_; clear hKK)
            go_wp2_with fail
            refine (tjSyncR hT12.out).mono ?_
            rintro e W13 ⟨rfl, hT, hb, hkk⟩
            rw [hLB.out] at hb
            have hT13 := hid hT
            have hB13 := hid (hB12.out.trans hb)
            have hX13 := hid (hkk _ _ _ hX12.out (by decide) (by decide) (by decide) (by decide) (by decide))
            clear hT hb hkk hT12 hB12 hX12
            try (rename_i hKK; refine hKK _ _ ?_; clear hKK)
            have hok2' := hid (show JOk D.sync L.n l st from hok'.out.sync)
            go_wp2_with (first
              | (go_at_call 11; refine (errNum_any _ _).mono ?_; rintro e w' ⟨rfl, rfl⟩)
              | fail)
            try clear q0 q3 q4 q5
            go_wp2_with fail
            refine (tjUsed hst.out.len hT13.out).mono ?_
            rintro e w' ⟨rfl, hw⟩
            obtain rfl := hw.symm
            clear hw
            try (rename_i hKK; refine hKK _ _ ?_; clear hKK)
            go_wp2_with fail
            refine (tjUsedR hT13.out).mono ?_
            rintro e w' ⟨rfl, hw⟩
            obtain rfl := hw.symm
            clear hw
            try (rename_i hKK; refine hKK _ _ ?_; clear hKK)
            go_wp2_with fail
            refine (tjDirty hT13.out).mono ?_
            rintro e w' ⟨rfl, hw⟩
            obtain rfl := hw.symm
            clear hw
            try (rename_i hKK; refine hKK _ _ ?_; clear hKK)
            go_wp2_with fail
            refine (tjDirtyR hT13.out).mono ?_
            rintro e w' ⟨rfl, hw⟩
            obtain rfl := hw.symm
            clear hw
            try (rename_i hKK; refine hKK _ _ ?_; clear hKK)
            go_wp2_with fail
            go_roundw
            case rel => exact ⟨i + 1, j, k, D.sync, l, st, by omega, rfl, rfl, rfl, by go_num, hok2'.out, hT13.out, hB13.out⟩
            case measure => simp [intOf]; omega
          · by_cases hk9 : kd = 8
            · skip
              subst hk9
              go_wp2_with (first
                | ((with_reducible refine at_slot (some 71) ?_); refine wpList_load_any rfl 39 (.tmp 70) rfl (p.add (i * 6)) rfl (JAct.cells ⟨8, R, kp, at_, sx⟩) _ (by exact hc'.out) Tryz.underlying39 rfl (by exact hac.out) ?_)
                | ((with_reducible refine at_slot (some 13) ?_); refine wpList_run rfl (.pointer (some ⟨W10.heap.size, 0, none⟩)) (W10.alloc (.cells zAj 39)) (by kernel_rfl) ?_)
                | ((with_reducible refine at_slot none ?_); refine wpList_store_mid rfl 39 (.tmp 13) (.tmp 71) rfl W10.heap.size 0 (JAct.cells ⟨8, R, kp, at_, sx⟩).toArray rfl rfl (by exact ja_there W10 _ rfl) (by exact hac.out) (by exact ja_one _) ?_; generalize hW : World.setCells _ _ _ _ = W11; obtain ⟨hN, hb⟩ := ja_new hW; have hT11 := hid (hT10.out.on hb); have hB11 := hid (bup hb hB10.out); have hX11 := hid hN; clear hb hT10 hB10 hN; clear hW; have q0 := hX11.out.cK 0 _ rfl; have q3 := hX11.out.cK 3 _ rfl; have q4 := hX11.out.cK 4 _ rfl; have q5 := hX11.out.cK 5 _ rfl)
                | fail)
              obtain ⟨gx, hgx⟩ : ∃ g, W10.heap.size = g := ⟨_, rfl⟩
              rw [hgx] at hX11 q0 q3 q4 q5 ⊢
              clear hgx
              have hD11 := hid hT11.out.two
              clear hT11
              refine (tdCrash kp hD11.out).mono ?_
              rintro e W12 ⟨rfl, hT, hb, hkk⟩
              rw [hLB.out] at hb
              have hD12 := hid hT
              have hB12 := hid (hB11.out.trans hb)
              have hX12 := hid (hkk _ _ _ hX11.out (by decide) (by decide) (by decide))
              clear hT hb hkk hD11 hB11 hX11
              try (rename_i hKK; refine hKK _ _ ?_; clear hKK)
              try clear q0 q3 q4 q5
              have q0 := hX12.out.cK 0 _ rfl
              have q3 := hX12.out.cK 3 _ rfl
              have q4 := hX12.out.cK 4 _ rfl
              have q5 := hX12.out.cK 5 _ rfl
              go_wp2_with fail
              try clear q0 q3 q4 q5
              refine (tdCrashR kp hD12.out).mono ?_
              rintro e W13 ⟨rfl, hT, hb, hkk⟩
              rw [hLB.out] at hb
              have hD13 := hid hT
              have hB13 := hid (hB12.out.trans hb)
              have hX13 := hid (hkk _ _ _ hX12.out (by decide) (by decide) (by decide))
              clear hT hb hkk hD12 hB12 hX12
              try (rename_i hKK; refine hKK _ _ ?_; clear hKK)
              try clear q0 q3 q4 q5
              go_wp2_with fail
              refine (tjOpened hD13.out rfl (hok'.out.fine.crash kp)).mono ?_
              rintro e W14 ⟨j2, k2, D2, l2, st2, rfl, hT, hok2, hb, hkk⟩
              rw [hLB.out] at hb
              have hT14 := hid hT
              have hB14 := hid (hB13.out.trans hb)
              have hok2' := hid hok2
              have hst2 := hid (hok2.st (by rw [hLn.out]; exact hn256.out))
              clear hT hb hkk hok2 hD13 hB13 hX13
              try (rename_i hKK; refine hKK _ _ ?_; clear hKK)
              try clear q0 q3 q4 q5
              go_wp2_with fail
              refine (tjUsed hst2.out.len hT14.out).mono ?_
              rintro e w' ⟨rfl, hw⟩
              obtain rfl := hw.symm
              clear hw
              try (rename_i hKK; refine hKK _ _ ?_; clear hKK)
              go_wp2_with fail
              refine (tjUsedR hT14.out).mono ?_
              rintro e w' ⟨rfl, hw⟩
              obtain rfl := hw.symm
              clear hw
              try (rename_i hKK; refine hKK _ _ ?_; clear hKK)
              go_wp2_with fail
              refine (tjDirty hT14.out).mono ?_
              rintro e w' ⟨rfl, hw⟩
              obtain rfl := hw.symm
              clear hw
              try (rename_i hKK; refine hKK _ _ ?_; clear hKK)
              go_wp2_with fail
              refine (tjDirtyR hT14.out).mono ?_
              rintro e w' ⟨rfl, hw⟩
              obtain rfl := hw.symm
              clear hw
              try (rename_i hKK; refine hKK _ _ ?_; clear hKK)
              go_wp2_with fail
              go_roundw
              case rel => exact ⟨i + 1, j2, k2, D2, l2, st2, by omega, rfl, rfl, rfl, by go_num, hok2'.out, hT14.out, hB14.out⟩
              case measure => simp [intOf]; omega
            · skip
              obtain ⟨⟨c, D9⟩, hwa⟩ : ∃ z, wrAns L.n D at_ sx = z := ⟨_, rfl⟩
              have hwa' := hid hwa
              have hf9 := hid (show D9.fine L.n from wr_fine hok'.out.fine hwa)
              clear hwa
              go_wp2_with (first
                | ((with_reducible refine at_slot (some 71) ?_); refine wpList_load_any rfl 39 (.tmp 70) rfl (p.add (i * 6)) rfl (JAct.cells ⟨kd, R, kp, at_, sx⟩) _ (by exact hc'.out) Tryz.underlying39 rfl (by exact hac.out) ?_)
                | ((with_reducible refine at_slot (some 13) ?_); refine wpList_run rfl (.pointer (some ⟨W10.heap.size, 0, none⟩)) (W10.alloc (.cells zAj 39)) (by kernel_rfl) ?_)
                | ((with_reducible refine at_slot none ?_); refine wpList_store_mid rfl 39 (.tmp 13) (.tmp 71) rfl W10.heap.size 0 (JAct.cells ⟨kd, R, kp, at_, sx⟩).toArray rfl rfl (by exact ja_there W10 _ rfl) (by exact hac.out) (by exact ja_one _) ?_; generalize hW : World.setCells _ _ _ _ = W11; obtain ⟨hN, hb⟩ := ja_new hW; have hT11 := hid (hT10.out.on hb); have hB11 := hid (bup hb hB10.out); have hX11 := hid hN; clear hb hT10 hB10 hN; clear hW; have q0 := hX11.out.cK 0 _ rfl; have q3 := hX11.out.cK 3 _ rfl; have q4 := hX11.out.cK 4 _ rfl; have q5 := hX11.out.cK 5 _ rfl)
                | fail)
              obtain ⟨gx, hgx⟩ : ∃ g, W10.heap.size = g := ⟨_, rfl⟩
              rw [hgx] at hX11 q0 q3 q4 q5 ⊢
              clear hgx
              have hD11 := hid hT11.out.two
              clear hT11
              refine (tdWrite hwa'.out hD11.out).mono ?_
              rintro e W12 ⟨rfl, hT, hb, hkk⟩
              rw [hLB.out] at hb
              have hD12 := hid hT
              have hB12 := hid (hB11.out.trans hb)
              have hX12 := hid (hkk _ _ _ hX11.out (by decide) (by decide) (by decide))
              clear hT hb hkk hD11 hB11 hX11
              try (rename_i hKK; refine hKK _ _ ?_; clear hKK)
              try clear q0 q3 q4 q5
              have q0 := hX12.out.cK 0 _ rfl
              have q3 := hX12.out.cK 3 _ rfl
              have q4 := hX12.out.cK 4 _ rfl
              have q5 := hX12.out.cK 5 _ rfl
              go_wp2_with fail
              try clear q0 q3 q4 q5
              refine (tdWriteR hwa'.out hD12.out).mono ?_
              rintro e W13 ⟨rfl, hT, hb, hkk⟩
              rw [hLB.out] at hb
              have hD13 := hid hT
              have hB13 := hid (hB12.out.trans hb)
              have hX13 := hid (hkk _ _ _ hX12.out (by decide) (by decide) (by decide))
              clear hT hb hkk hD12 hB12 hX12
              try (rename_i hKK; refine hKK _ _ ?_; clear hKK)
              try clear q0 q3 q4 q5
              go_wp2_with fail
              refine (tjOpened hD13.out rfl hf9.out).mono ?_
              rintro e W14 ⟨j2, k2, D2, l2, st2, rfl, hT, hok2, hb, hkk⟩
              rw [hLB.out] at hb
              have hT14 := hid hT
              have hB14 := hid (hB13.out.trans hb)
              have hok2' := hid hok2
              have hst2 := hid (hok2.st (by rw [hLn.out]; exact hn256.out))
              clear hT hb hkk hok2 hD13 hB13 hX13
              try (rename_i hKK; refine hKK _ _ ?_; clear hKK)
              try clear q0 q3 q4 q5
              go_wp2_with fail
              refine (tjUsed hst2.out.len hT14.out).mono ?_
              rintro e w' ⟨rfl, hw⟩
              obtain rfl := hw.symm
              clear hw
              try (rename_i hKK; refine hKK _ _ ?_; clear hKK)
              go_wp2_with fail
              refine (tjUsedR hT14.out).mono ?_
              rintro e w' ⟨rfl, hw⟩
              obtain rfl := hw.symm
              clear hw
              try (rename_i hKK; refine hKK _ _ ?_; clear hKK)
              go_wp2_with fail
              refine (tjDirty hT14.out).mono ?_
              rintro e w' ⟨rfl, hw⟩
              obtain rfl := hw.symm
              clear hw
              try (rename_i hKK; refine hKK _ _ ?_; clear hKK)
              go_wp2_with fail
              refine (tjDirtyR hT14.out).mono ?_
              rintro e w' ⟨rfl, hw⟩
              obtain rfl := hw.symm
              clear hw
              try (rename_i hKK; refine hKK _ _ ?_; clear hKK)
              go_wp2_with fail
              go_roundw
              case rel => exact ⟨i + 1, j2, k2, D2, l2, st2, by omega, rfl, rfl, rfl, by go_num, hok2'.out, hT14.out, hB14.out⟩
              case measure => simp [intOf]; omega
      · have hend : ¬ ((i : Int) < (len : Int)) ∨ ((i : Int) < (len : Int)) ∧ ¬ ((i : Int) < 50) := by omega
        clear hlt
        have hD10 := hid hT10.out.two
        clear hT10
        rcases hend with hend | ⟨hend, hend2⟩
        all_goals
          go_wp2_with fail
          go_loopw [19] (fun ix wr => ∃ q : Nat, q ≤ n ∧ ix = .int .i64 (q : Int) ∧ TwoD wr L D D ∧ Below w.heap.size w wr) (fun ix _ => n - (intOf ix).toNat)
          case atStart => exact ⟨0, Nat.zero_le _, rfl, hD10.out, hB10.out⟩
          case round =>
            obtain ⟨q, hq, rfl, hD, hBr⟩ := hrel
            obtain ⟨W30, rfl⟩ : ∃ V, V = wr := ⟨_, rfl⟩
            have hD30 := hid hD
            have hB30 := hid hBr
            clear hD hBr
            by_cases hqn : q < n
            · have hqn' : (q : Int) < (n : Int) := by omega
              have hqw := IntWalk.i64_in ((q : Int) + 1) (by have := hn256.out; omega)
              obtain ⟨⟨s, c⟩, hrd⟩ : ∃ z, rdAns L.n D (q : Int) = z := ⟨_, rfl⟩
              have hrd' := hid hrd
              clear hrd
              go_wp2_with fail
              refine (tdRead hrd'.out hD30.out).mono ?_
              rintro e w' ⟨rfl, rfl⟩
              try (rename_i hKK; refine hKK _ _ ?_; clear hKK)
              go_wp2_with fail
              refine (tdReadR hrd'.out hD30.out).mono ?_
              rintro e w' ⟨rfl, rfl⟩
              try (rename_i hKK; refine hKK _ _ ?_; clear hKK)
              go_wp2_with fail
              go_roundw
              case rel => exact ⟨q + 1, by omega, by go_num, hD30.out, hB30.out⟩
              case measure => simp [intOf]; omega
            · obtain rfl : q = n := by omega
              have hqn' : ¬ (q : Int) < (q : Int) := by omega
              go_wp2_with fail
              refine (awake8_any _).mono ?_
              rintro e w' ⟨rfl, hb⟩
              have hB' := hid (hB30.out.trans (hb.mono hB30.out.size))
              clear hb
              try (rename_i hKK; refine hKK _ _ ?_; clear hKK)
              try (go_wp2_with fail)
              go_ret
              exact ⟨rfl, hB'.out⟩
  · have hN := hid (dkNew_no most hm w)
    have hM := hid (fun V => rdNew_no most hm V)
    clear hX hm
    go_enter Tryz.func3, Tryz.ntmps3
    go_wp2_with fail
    refine hN.out.mono ?_
    rintro e w' ⟨rfl, hw⟩
    obtain rfl := hw.symm
    clear hw
    try (rename_i hKK; refine hKK _ _ ?_; clear hKK)
    go_wp2_with fail
    refine (hM.out _).mono ?_
    rintro e w' ⟨rfl, hw⟩
    obtain rfl := hw.symm
    clear hw
    try (rename_i hKK; refine hKK _ _ ?_; clear hKK)
    go_wp2_with (go_at_call 11; refine (errNum_any _ _).mono ?_; rintro e w' ⟨rfl, rfl⟩)
    refine (awake8_any _).mono ?_
    rintro e w' ⟨rfl, hb⟩
    go_wp2_with fail
    go_ret
    exact ⟨rfl, hb⟩

end Go.Proofs.YtmgaegaibglnhaaGreat
