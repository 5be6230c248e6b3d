/- Layer 12, the program's side: a text put to a row by its hash: the walk. -/
import Derived.Test.YtpjfhbmegabafaaLFtW
namespace Go.Proofs.Ytpjfhbmegabafaa
open Go.RowKit
open Go.Maps (Keyed)
attribute [local irreducible] Sha.compress Sha.blocks Sha.sha Sha.pad

theorem hkNil (w : World) : (binOp .eql 140 (.map none) (.map none)).run Try.prog w = .ok (.bool true) w := by kernel_rfl
theorem hkSome (w : World) (b : Nat) : (binOp .eql 140 (.map (some b)) (.map none)).run Try.prog w = .ok (.bool false) w := by kernel_rfl
theorem hkPairs_no {ks : List (List UInt8 × ByteArray)} {k : List UInt8} (h : ∀ p ∈ ks, p.1 ≠ k) : mapGet (hkPairs ks) (.agg (byteCells k).toArray) none := by
  intro p hp e
  obtain ⟨q, hq, rfl⟩ := List.mem_map.1 hp
  rw [List.mem_zipIdx_iff_getElem?] at hq
  injection e with e1
  have e3 : byteCells q.1.1 = byteCells k := by have := congrArg Array.toList e1; simpa using this
  exact h _ (List.mem_of_getElem? hq) (byteCells_inj e3)
set_option maxRecDepth 100000 in
set_option maxHeartbeats 1000000 in
theorem hkPut_any (r B : Nat) (M : Option Nat) (A : Option Addr) (c : Nat) (ks : List (List UInt8 × ByteArray)) (k : List UInt8) (x : ByteArray) (hk : k.length = 32) (hn : ks.length ≤ 8796093021952) (w : World) (h : HkRow w r B M A c ks) (hB : B ≤ w.heap.size) :
    Calls Try.prog 88 #[.pointer (some ⟨r, 0, none⟩), .agg (byteCells k).toArray, .string x] w fun e w' => (∃ v, e = .returned v) ∧ ∃ M' A' c', HkPut w w' r B M A c ks k x M' A' c' := by
  have hC := hid (hash_cells k hk)
  obtain ⟨W0, hW0⟩ : ∃ V, w.alloc (.cells (byteCells k).toArray 33) = V := ⟨_, rfl⟩
  have hb0 : Below w.heap.size w W0 := by rw [← hW0]; exact (Below.refl _ _).alloc (Nat.le_refl _) _
  have hX := hid (show Holds W0 w.heap.size 33 (byteCells k) from by rw [← hW0]; exact Holds.new w _ (byteCells k).toArray)
  have hR : HkRow W0 r B M A c ks := ⟨h.cell.below hb0 h.cell.lt, h.map.imp id (fun ⟨mb, e, hm⟩ => ⟨mb, e, hm.on hb0⟩), rown_onF h.row hb0, h.len, h.uniq⟩
  have hRd : HkRow W0.drew r B M A c ks := ⟨hR.cell, hR.map, rown_onF hR.row ((Below.refl W0.heap.size W0).drew), hR.len, hR.uniq⟩
  have hlk0 := hRd.look k hk
  have hR2 := hid hRd
  have hW0' := hid hW0
  have hn' := hid hn
  have hk' := hid hk
  have hB' := hid hB
  have hln := hid h.len
  have hun := hid h.uniq
  have hrl := hid h.cell.lt
  have hL := hid (show Holds W0.drew r 144 [.map M, .slice A ks.length c] from hR.cell)
  have hXd := hid (show Holds W0.drew w.heap.size 33 (byteCells k) from hX.out)
  have hbf := hid (show Below w.heap.size w W0.drew from hb0.trans ((Below.refl w.heap.size W0).drew))
  have hsz := hid (show W0.drew.heap.size = w.heap.size + 1 from by rw [← hW0]; show (w.alloc _).heap.size = _; simp)
  have hml := hid (fun mb (e : M = some mb) => show mb < w.heap.size from by
    rcases h.map with ⟨e2, _⟩ | ⟨mb', e2, hm⟩
    · rw [e2] at e; cases e
    · rw [e2] at e; rw [← Option.some.inj e]; exact hm.lt)
  clear hb0 hW0 hR hRd h hn hk hB
  obtain ⟨g, hg⟩ : ∃ g, w.heap.size = g := ⟨_, rfl⟩
  have hg' := hid hg
  rw [hg] at hX hXd
  clear hg
  obtain ⟨m, hmm⟩ : ∃ m, ks.length + 1 = m := ⟨_, rfl⟩
  have hmm' := hid hmm
  clear hmm
  rcases hlk0 with ⟨i, y, hi, hlk⟩ | ⟨hno, hlk⟩
  · have hold := hid (show ¬ ∀ p ∈ ks, p.1 ≠ k from fun h => h (k, y) (List.mem_of_getElem? hi) rfl)
    clear hi
    go_enter Try.func88, Try.ntmps88
    go_wp2_with (first
      | ((with_reducible refine at_slot (some 4) ?_); refine wpList_run rfl (.pointer (some ⟨g, 0, none⟩)) (w.alloc (.cells (byteCells k).toArray 33)) (by rw [← hg'.out]; kernel_rfl) ?_; rw [hW0'.out])
      | fail)
    have c0 := hL.out.cO 0 _ rfl
    refine wp_region_held_drew (S := fun V => V.cell? ⟨r, 0, none⟩ = some (.map M) ∧ Holds V g 33 (byteCells k) ∧ (Instr.lookup 140 (.map M) (.agg (byteCells k).toArray) true).run Try.prog V = .ok (.tuple #[.int .i64 (i : Int), .bool true]) V) (by kernel_rfl) ⟨c0, hXd.out, hlk⟩ (fun hHeld => ?_)
    clear c0 hlk
    generalize W0.drew = Wd at *
    refine tkx 0 (.pointer (some ⟨r, 0, none⟩)) hHeld ?_; simp only [ly, Act.put]
    refine tkx 1 (.pointer (some ⟨r, 0, none⟩)) hHeld ?_; simp only [ly, Act.put]
    refine tkx 2 (.pointer (some ⟨r, 0, none⟩)) hHeld ?_; simp only [ly, Act.put]
    refine tkx 3 (.map M) hHeld ?_ (hy := .inl ⟨by kernel_rfl, fun V hS => by have c1 := hS.1; go_simp⟩); simp only [ly, Act.put]
    refine tkx 4 (.agg (byteCells k).toArray) hHeld ?_ (hy := yieldsIf_load_any (by kernel_rfl) _ _ rfl ⟨g, 0, none⟩ rfl (byteCells k) _ (fun V hS => hS.2.1.anyO) Try.underlying33 rfl (by exact hC.out.size')); simp only [ly, Act.put]
    refine tkx 5 (.tuple #[.int .i64 (i : Int), .bool true]) hHeld ?_ (hy := yieldsIf_lookup 140 (.tmp 13) (.tmp 14) true rfl rfl rfl rfl (fun V hS => hS.2.2)); simp only [ly, Act.put]
    refine tkx 6 (.tuple #[.int .i64 (i : Int), .bool true]) hHeld ?_; simp only [ly, Act.put]
    refine tkx 7 (.int .i64 (i : Int)) hHeld ?_; simp only [ly, Act.put]
    refine tkx 8 (.bool true) hHeld ?_; simp only [ly, Act.put]
    refine tkx 9 (.int .i64 (i : Int)) hHeld ?_; simp only [ly, Act.put]
    refine tkx 10 (.bool true) hHeld ?_; simp only [ly, Act.put]
    refine wpAnyH_done (by kernel_rfl) ?_ _
    clear hHeld
    go_wp2_with fail
    go_ret
    exact ⟨⟨_, rfl⟩, _, _, _, hR2.out.old hbf.out hold.out⟩
  · have hx' := hid hno
    clear hno
    have hmap := hid hR2.out.map
    rcases hmap.out with ⟨rfl, hks⟩ | ⟨mb, rfl, hm⟩
    · have hks' := hid hks
      clear hks
      go_enter Try.func88, Try.ntmps88
      go_wp2_with (first
        | ((with_reducible refine at_slot (some 4) ?_); refine wpList_run rfl (.pointer (some ⟨g, 0, none⟩)) (w.alloc (.cells (byteCells k).toArray 33)) (by rw [← hg'.out]; kernel_rfl) ?_; rw [hW0'.out])
        | fail)
      have c0 := hL.out.cO 0 _ rfl
      refine wp_region_held_drew (S := fun V => V.cell? ⟨r, 0, none⟩ = some (.map none) ∧ Holds V g 33 (byteCells k) ∧ (Instr.lookup 140 (.map none) (.agg (byteCells k).toArray) true).run Try.prog V = .ok (.tuple #[.int .i64 0, .bool false]) V) (by kernel_rfl) ⟨c0, hXd.out, hlk⟩ (fun hHeld => ?_)
      clear c0 hlk
      generalize W0.drew = Wd at *
      refine tkx 0 (.pointer (some ⟨r, 0, none⟩)) hHeld ?_; simp only [ly, Act.put]
      refine tkx 1 (.pointer (some ⟨r, 0, none⟩)) hHeld ?_; simp only [ly, Act.put]
      refine tkx 2 (.pointer (some ⟨r, 0, none⟩)) hHeld ?_; simp only [ly, Act.put]
      refine tkx 3 (.map none) hHeld ?_ (hy := .inl ⟨by kernel_rfl, fun V hS => by have c1 := hS.1; go_simp⟩); simp only [ly, Act.put]
      refine tkx 4 (.agg (byteCells k).toArray) hHeld ?_ (hy := yieldsIf_load_any (by kernel_rfl) _ _ rfl ⟨g, 0, none⟩ rfl (byteCells k) _ (fun V hS => hS.2.1.anyO) Try.underlying33 rfl (by exact hC.out.size')); simp only [ly, Act.put]
      refine tkx 5 (.tuple #[.int .i64 0, .bool false]) hHeld ?_ (hy := yieldsIf_lookup 140 (.tmp 13) (.tmp 14) true rfl rfl rfl rfl (fun V hS => hS.2.2)); simp only [ly, Act.put]
      refine tkx 6 (.tuple #[.int .i64 0, .bool false]) hHeld ?_; simp only [ly, Act.put]
      refine tkx 7 (.int .i64 0) hHeld ?_; simp only [ly, Act.put]
      refine tkx 8 (.bool false) hHeld ?_; simp only [ly, Act.put]
      refine tkx 9 (.int .i64 0) hHeld ?_; simp only [ly, Act.put]
      refine tkx 10 (.bool false) hHeld ?_; simp only [ly, Act.put]
      refine wpAnyH_done (by kernel_rfl) ?_ _
      clear hHeld
      have c0 := hL.out.cO 0 _ rfl
      have c1 := hL.out.cO 1 _ rfl
      have f0 := hL.out.frozen 0
      have he := hkNil Wd
      obtain ⟨mb, hmb⟩ : ∃ q, Wd.heap.size = q := ⟨_, rfl⟩
      have hmb' := hid hmb
      obtain ⟨V0, hV0⟩ : ∃ V, Wd.alloc (.map #[] 0) = V := ⟨_, rfl⟩
      have hb0 : Below Wd.heap.size Wd V0 := by rw [← hV0]; exact (Below.refl _ _).alloc (Nat.le_refl _) _
      have hH0 := hid (hL.out.below hb0 hL.out.lt)
      have hXv := hid (hXd.out.below hb0 hXd.out.lt)
      have hmp := hid (show MapAt V0 mb [] from by rw [← hV0, ← hmb]; exact MapAt.new Wd)
      have hb0' := hid hb0
      have hV0' := hid hV0
      clear hmb hb0 hV0
      go_wp2_with (first
        | ((with_reducible refine at_slot (some 25) ?_); refine wpList_run rfl (.map (some mb)) (Wd.alloc (.map #[] 0)) (by rw [← hmb'.out]; kernel_rfl) ?_; rw [hV0'.out]; clear c0 c1 f0; have c0 := hH0.out.cO 0 _ rfl; have c1 := hH0.out.cO 1 _ rfl; have f0 := hH0.out.frozen 0)
        | fail)
      obtain ⟨V1, hV1⟩ : ∃ V, V0.setCell ⟨r, 0, none⟩ (.map (some mb)) = V := ⟨_, rfl⟩
      have hgr := hrl.out
      have hgg := hg'.out
      have hss := hsz.out
      have hmbb := hmb'.out
      have hC0 := hid (show Holds V1 r 144 [.map (some mb), .slice A ks.length c] from by rw [← hV1]; exact hH0.out.set 0 _)
      have hX0 := hid (show Holds V1 g 33 (byteCells k) from by rw [← hV1]; exact hXv.out.far ⟨r, 0, none⟩ (by show g ≠ r; omega) _)
      have hM0 := hid (show MapAt V1 mb (hkPairs ks) from by rw [← hV1, hks'.out]; exact hmp.out.far ⟨r, 0, none⟩ (by show mb ≠ r; omega) _)
      have hT0 := hid (show TurnS (fun k => k = r) w V1 from by rw [← hV1]; exact ⟨hb0'.out.os.trans hbf.out.os, hb0'.out.tape.trans hbf.out.tape, hb0'.out.output.trans hbf.out.output, by rw [World.size_setCell]; exact Nat.le_trans hbf.out.size hb0'.out.size, fun k hk hne => (heap_setCell_other _ _ _ _ hne).trans ((hb0'.out.block k (by omega)).trans (hbf.out.block k hk))⟩)
      have hR0 := hid (show V1.ownsRow B 9 1 (.slice A ks.length c) ks.length (strs (ks.map (·.2))) from by
        have hne : ∀ k, (Value.slice A ks.length c).ownBlock = some k → k ≠ r := fun k e => own_neF hR2.out.row e hL.out (by decide)
        rw [← hV1]
        exact rown_block (rown_onF hR2.out.row hb0'.out) fun k hk => heap_setCell_other _ _ _ _ (hne k hk))
      have hmo := hid (show (none : Option Nat) = some mb ∨ w.heap.size ≤ mb from .inr (by omega))
      have hmr := hid (show mb ≠ r from by omega)
      have hmg := hid (show mb ≠ g from by omega)
      rw [hV1]
      clear hV1 hH0 hmp c0 c1 f0 he hgr hgg hss hmbb
      have hMd := hid (show MapAt V1.drew mb (hkPairs ks) from hM0.out)
      have hCd := hid (show Holds V1.drew r 144 [.map (some mb), .slice A ks.length c] from hC0.out)
      have hXe := hid (show Holds V1.drew g 33 (byteCells k) from hX0.out)
      have hRe := hid (rown_onF hR0.out ((Below.refl V1.heap.size V1).drew))
      have hTd := hid (show TurnS (fun k => k = r) w V1.drew from ⟨hT0.out.os, hT0.out.tape, hT0.out.output, hT0.out.size, hT0.out.block⟩)
      have hzd := hid (show w.heap.size ≤ V1.drew.heap.size from hT0.out.size)
      refine wp_region_held_drew (S := fun V => V.cell? ⟨r, 0, none⟩ = some (.map (some mb)) ∧ V.cell? ⟨r, 1, none⟩ = some (.slice A ks.length c) ∧ Holds V g 33 (byteCells k)) (by kernel_rfl) (by exact ⟨hCd.out.cO 0 _ rfl, hCd.out.cO 1 _ rfl, hXe.out⟩) (fun hHeld => ?_)
      clear hM0 hC0 hR0 hT0 hX0
      generalize V1.drew = We at *
      refine tkx 0 (.pointer (some ⟨r, 0, none⟩)) hHeld ?_; simp only [ly, Act.put]
      refine tkx 1 (.pointer (some ⟨r, 0, none⟩)) hHeld ?_; simp only [ly, Act.put]
      refine tkx 2 (.pointer (some ⟨r, 0, none⟩)) hHeld ?_; simp only [ly, Act.put]
      refine tkx 3 (.map (some mb)) hHeld ?_ (hy := .inl ⟨by kernel_rfl, fun V hS => by have c1 := hS.1; go_simp⟩); simp only [ly, Act.put]
      refine tkx 4 (.agg (byteCells k).toArray) hHeld ?_ (hy := yieldsIf_load_any (by kernel_rfl) _ _ rfl ⟨g, 0, none⟩ rfl (byteCells k) _ (fun V hS => hS.2.2.anyO) Try.underlying33 rfl (by exact hC.out.size')); simp only [ly, Act.put]
      refine tkx 5 (.pointer (some ⟨r, 0, none⟩)) hHeld ?_; simp only [ly, Act.put]
      refine tkx 6 (.pointer (some ⟨r, 0, none⟩)) hHeld ?_; simp only [ly, Act.put]
      refine tkx 7 (.pointer (some ⟨r, 1, none⟩)) hHeld ?_; simp only [ly, Act.put]
      refine tkx 8 (.slice A ks.length c) hHeld ?_ (hy := .inl ⟨by kernel_rfl, fun V hS => by have c1 := hS.2.1; go_simp⟩); simp only [ly, Act.put]
      refine tkx 9 (.int .i64 (ks.length : Int)) hHeld ?_; simp only [ly, Act.put]
      obtain ⟨kl, hkey⟩ := hash_key k hk'.out
      obtain ⟨W1, hr, hm1, hz1, hk1, hg1⟩ := hMd.out.put (P := Try.prog) hash_keyed (hkPairs_keys ks hln.out) Try.underlying140 hkey (hkPairs_no hx'.out) (.int .i64 (ks.length : Int))
      refine wpAnyH_ready (rs := [10]) (by kernel_rfl) (by simp) (AllReadyH.cons rfl (fun K hK => ?_) AllReadyH.nil)
      have hK' := hid hK
      clear hK
      rw [if_pos (by kernel_rfl)]
      simp only [ly1, ly2, ly3]
      refine wp_mapPut (.tmp 31) (.tmp 32) (.tmp 37) _ rfl (.map (some mb)) (.agg (byteCells k).toArray) (.int .i64 (ks.length : Int)) rfl rfl rfl (by exact hr) ?_
      have hC1 : Holds W1 r 144 [.map (some mb), .slice A ks.length c] := hCd.out.grown hg1 (fun e => hmr.out (Option.some.inj e).symm)
      have hX1 : Holds W1 g 33 (byteCells k) := hXe.out.grown hg1 (fun e => hmg.out (Option.some.inj e).symm)
      have hR1 := hid (show W1.ownsRow B 9 1 (.slice A ks.length c) ks.length (strs (ks.map (·.2))) from rown_block hRe.out fun k hk => hg1.block k (hRe.out.lt k hk).2 (fun e => by
        have e2 := Option.some.inj e
        obtain ⟨es, cl, hb, _⟩ := hMd.out
        obtain ⟨cs, _, _, h3⟩ := own_cells hRe.out hk
        rw [e2, hb] at h3
        cases h3))
      have c0 := hC1.cO 0 _ rfl
      have c1 := hC1.cO 1 _ rfl
      refine hK'.out _ _ ⟨c0, c1, hX1⟩ (fun hHeld => ?_)
      clear hK' K
      refine wpAnyH_done (by kernel_rfl) ?_ _
      have hg1' := hid hg1
      have hm1' := hid hm1
      have hC1' := hid hC1
      clear hr hk1 hg1 hm1 hC1 hkey hHeld hX1
      go_wp2_with (first
        | ((with_reducible refine at_slot (some 44) ?_); refine wpList_pushTextF rfl rfl (.tmp 43) (.tmp 42) (.tmp 44) rfl rfl B A ks.length c (ks.map (·.2)) x rfl rfl rfl (by have := hn'.out; omega) (by exact hR1.out) (by have := hB'.out; have := hzd.out; omega) m hmm'.out ?_; intro A2 c2 W2 hrow hgr hfr; have hrow' := hid hrow; have hgr' := hid hgr; have hfr' := hid hfr; have hC2 := hC1'.out.grown hgr (fun e => own_neF hR1.out e.symm hC1'.out (by decide) rfl); clear c0 c1 hrow hgr hfr; have c0 := hC2.cO 0 _ rfl; have c1 := hC2.cO 1 _ rfl; have f1 := hC2.frozen 1; clear hC2)
        | fail)
      obtain ⟨W3, hW3⟩ : ∃ V, W2.setCell ⟨r, 1, none⟩ (.slice A2 m c2) = V := ⟨_, rfl⟩
      go_ret
      exact ⟨⟨_, rfl⟩, some mb, A2, c2, hkput_end hln.out hun.out hx'.out hk'.out hmr.out hmm'.out (by first | exact hmo.out | exact .inl rfl) hCd.out hTd.out hm1'.out hg1'.out hR1.out hrow'.out hgr'.out hfr'.out rfl⟩
    · have hM1 := hid hm
      clear hm
      go_enter Try.func88, Try.ntmps88
      go_wp2_with (first
        | ((with_reducible refine at_slot (some 4) ?_); refine wpList_run rfl (.pointer (some ⟨g, 0, none⟩)) (w.alloc (.cells (byteCells k).toArray 33)) (by rw [← hg'.out]; kernel_rfl) ?_; rw [hW0'.out])
        | fail)
      have c0 := hL.out.cO 0 _ rfl
      refine wp_region_held_drew (S := fun V => V.cell? ⟨r, 0, none⟩ = some (.map (some mb)) ∧ Holds V g 33 (byteCells k) ∧ (Instr.lookup 140 (.map (some mb)) (.agg (byteCells k).toArray) true).run Try.prog V = .ok (.tuple #[.int .i64 0, .bool false]) V) (by kernel_rfl) ⟨c0, hXd.out, hlk⟩ (fun hHeld => ?_)
      clear c0 hlk
      generalize W0.drew = Wd at *
      refine tkx 0 (.pointer (some ⟨r, 0, none⟩)) hHeld ?_; simp only [ly, Act.put]
      refine tkx 1 (.pointer (some ⟨r, 0, none⟩)) hHeld ?_; simp only [ly, Act.put]
      refine tkx 2 (.pointer (some ⟨r, 0, none⟩)) hHeld ?_; simp only [ly, Act.put]
      refine tkx 3 (.map (some mb)) hHeld ?_ (hy := .inl ⟨by kernel_rfl, fun V hS => by have c1 := hS.1; go_simp⟩); simp only [ly, Act.put]
      refine tkx 4 (.agg (byteCells k).toArray) hHeld ?_ (hy := yieldsIf_load_any (by kernel_rfl) _ _ rfl ⟨g, 0, none⟩ rfl (byteCells k) _ (fun V hS => hS.2.1.anyO) Try.underlying33 rfl (by exact hC.out.size')); simp only [ly, Act.put]
      refine tkx 5 (.tuple #[.int .i64 0, .bool false]) hHeld ?_ (hy := yieldsIf_lookup 140 (.tmp 13) (.tmp 14) true rfl rfl rfl rfl (fun V hS => hS.2.2)); simp only [ly, Act.put]
      refine tkx 6 (.tuple #[.int .i64 0, .bool false]) hHeld ?_; simp only [ly, Act.put]
      refine tkx 7 (.int .i64 0) hHeld ?_; simp only [ly, Act.put]
      refine tkx 8 (.bool false) hHeld ?_; simp only [ly, Act.put]
      refine tkx 9 (.int .i64 0) hHeld ?_; simp only [ly, Act.put]
      refine tkx 10 (.bool false) hHeld ?_; simp only [ly, Act.put]
      refine wpAnyH_done (by kernel_rfl) ?_ _
      clear hHeld
      have c0 := hL.out.cO 0 _ rfl
      have c1 := hL.out.cO 1 _ rfl
      have he := hkSome Wd mb
      go_wp2_with fail
      obtain ⟨V1, hV1⟩ : ∃ V, Wd = V := ⟨_, rfl⟩
      have hC0 := hid (show Holds V1 r 144 [.map (some mb), .slice A ks.length c] from by rw [← hV1]; exact hL.out)
      have hX0 := hid (show Holds V1 g 33 (byteCells k) from by rw [← hV1]; exact hXd.out)
      have hM0 := hid (show MapAt V1 mb (hkPairs ks) from by rw [← hV1]; exact hM1.out)
      have hR0 := hid (show V1.ownsRow B 9 1 (.slice A ks.length c) ks.length (strs (ks.map (·.2))) from by rw [← hV1]; exact hR2.out.row)
      have hT0 := hid (show TurnS (fun k => k = r) w V1 from by rw [← hV1]; exact TurnS.of_below hbf.out)
      have hmo := hid (show (some mb : Option Nat) = some mb ∨ w.heap.size ≤ mb from .inl rfl)
      have hmr := hid (show mb ≠ r from fun e => by
        obtain ⟨es, cl, hb, _⟩ := hM1.out
        have h3 := hL.out
        rw [e] at hb
        unfold Holds at h3
        rw [hb] at h3
        cases h3)
      have hmg := hid (show mb ≠ g from by have := hml.out mb rfl; have := hg'.out; omega)
      rw [hV1]
      clear hV1 c0 c1 he
      have hMd := hid (show MapAt V1.drew mb (hkPairs ks) from hM0.out)
      have hCd := hid (show Holds V1.drew r 144 [.map (some mb), .slice A ks.length c] from hC0.out)
      have hXe := hid (show Holds V1.drew g 33 (byteCells k) from hX0.out)
      have hRe := hid (rown_onF hR0.out ((Below.refl V1.heap.size V1).drew))
      have hTd := hid (show TurnS (fun k => k = r) w V1.drew from ⟨hT0.out.os, hT0.out.tape, hT0.out.output, hT0.out.size, hT0.out.block⟩)
      have hzd := hid (show w.heap.size ≤ V1.drew.heap.size from hT0.out.size)
      refine wp_region_held_drew (S := fun V => V.cell? ⟨r, 0, none⟩ = some (.map (some mb)) ∧ V.cell? ⟨r, 1, none⟩ = some (.slice A ks.length c) ∧ Holds V g 33 (byteCells k)) (by kernel_rfl) (by exact ⟨hCd.out.cO 0 _ rfl, hCd.out.cO 1 _ rfl, hXe.out⟩) (fun hHeld => ?_)
      clear hM0 hC0 hR0 hT0 hX0
      generalize V1.drew = We at *
      refine tkx 0 (.pointer (some ⟨r, 0, none⟩)) hHeld ?_; simp only [ly, Act.put]
      refine tkx 1 (.pointer (some ⟨r, 0, none⟩)) hHeld ?_; simp only [ly, Act.put]
      refine tkx 2 (.pointer (some ⟨r, 0, none⟩)) hHeld ?_; simp only [ly, Act.put]
      refine tkx 3 (.map (some mb)) hHeld ?_ (hy := .inl ⟨by kernel_rfl, fun V hS => by have c1 := hS.1; go_simp⟩); simp only [ly, Act.put]
      refine tkx 4 (.agg (byteCells k).toArray) hHeld ?_ (hy := yieldsIf_load_any (by kernel_rfl) _ _ rfl ⟨g, 0, none⟩ rfl (byteCells k) _ (fun V hS => hS.2.2.anyO) Try.underlying33 rfl (by exact hC.out.size')); simp only [ly, Act.put]
      refine tkx 5 (.pointer (some ⟨r, 0, none⟩)) hHeld ?_; simp only [ly, Act.put]
      refine tkx 6 (.pointer (some ⟨r, 0, none⟩)) hHeld ?_; simp only [ly, Act.put]
      refine tkx 7 (.pointer (some ⟨r, 1, none⟩)) hHeld ?_; simp only [ly, Act.put]
      refine tkx 8 (.slice A ks.length c) hHeld ?_ (hy := .inl ⟨by kernel_rfl, fun V hS => by have c1 := hS.2.1; go_simp⟩); simp only [ly, Act.put]
      refine tkx 9 (.int .i64 (ks.length : Int)) hHeld ?_; simp only [ly, Act.put]
      obtain ⟨kl, hkey⟩ := hash_key k hk'.out
      obtain ⟨W1, hr, hm1, hz1, hk1, hg1⟩ := hMd.out.put (P := Try.prog) hash_keyed (hkPairs_keys ks hln.out) Try.underlying140 hkey (hkPairs_no hx'.out) (.int .i64 (ks.length : Int))
      refine wpAnyH_ready (rs := [10]) (by kernel_rfl) (by simp) (AllReadyH.cons rfl (fun K hK => ?_) AllReadyH.nil)
      have hK' := hid hK
      clear hK
      rw [if_pos (by kernel_rfl)]
      simp only [ly1, ly2, ly3]
      refine wp_mapPut (.tmp 31) (.tmp 32) (.tmp 37) _ rfl (.map (some mb)) (.agg (byteCells k).toArray) (.int .i64 (ks.length : Int)) rfl rfl rfl (by exact hr) ?_
      have hC1 : Holds W1 r 144 [.map (some mb), .slice A ks.length c] := hCd.out.grown hg1 (fun e => hmr.out (Option.some.inj e).symm)
      have hX1 : Holds W1 g 33 (byteCells k) := hXe.out.grown hg1 (fun e => hmg.out (Option.some.inj e).symm)
      have hR1 := hid (show W1.ownsRow B 9 1 (.slice A ks.length c) ks.length (strs (ks.map (·.2))) from rown_block hRe.out fun k hk => hg1.block k (hRe.out.lt k hk).2 (fun e => by
        have e2 := Option.some.inj e
        obtain ⟨es, cl, hb, _⟩ := hMd.out
        obtain ⟨cs, _, _, h3⟩ := own_cells hRe.out hk
        rw [e2, hb] at h3
        cases h3))
      have c0 := hC1.cO 0 _ rfl
      have c1 := hC1.cO 1 _ rfl
      refine hK'.out _ _ ⟨c0, c1, hX1⟩ (fun hHeld => ?_)
      clear hK' K
      refine wpAnyH_done (by kernel_rfl) ?_ _
      have hg1' := hid hg1
      have hm1' := hid hm1
      have hC1' := hid hC1
      clear hr hk1 hg1 hm1 hC1 hkey hHeld hX1
      go_wp2_with (first
        | ((with_reducible refine at_slot (some 44) ?_); refine wpList_pushTextF rfl rfl (.tmp 43) (.tmp 42) (.tmp 44) rfl rfl B A ks.length c (ks.map (·.2)) x rfl rfl rfl (by have := hn'.out; omega) (by exact hR1.out) (by have := hB'.out; have := hzd.out; omega) m hmm'.out ?_; intro A2 c2 W2 hrow hgr hfr; have hrow' := hid hrow; have hgr' := hid hgr; have hfr' := hid hfr; have hC2 := hC1'.out.grown hgr (fun e => own_neF hR1.out e.symm hC1'.out (by decide) rfl); clear c0 c1 hrow hgr hfr; have c0 := hC2.cO 0 _ rfl; have c1 := hC2.cO 1 _ rfl; have f1 := hC2.frozen 1; clear hC2)
        | fail)
      obtain ⟨W3, hW3⟩ : ∃ V, W2.setCell ⟨r, 1, none⟩ (.slice A2 m c2) = V := ⟨_, rfl⟩
      go_ret
      exact ⟨⟨_, rfl⟩, some mb, A2, c2, hkput_end hln.out hun.out hx'.out hk'.out hmr.out hmm'.out (by first | exact hmo.out | exact .inl rfl) hCd.out hTd.out hm1'.out hg1'.out hR1.out hrow'.out hgr'.out hfr'.out rfl⟩

end Go.Proofs.Ytpjfhbmegabafaa
