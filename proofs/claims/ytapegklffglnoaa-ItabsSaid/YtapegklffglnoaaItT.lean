/- Layer 14: the reference's PutItab. -/
import Derived.Test.YtapegklffglnoaaItR
import Derived.Test.YtapegklffglnoaaRefBe
namespace Go.Proofs.Ytapegklffglnoaa
open Go.RowKit
open Go.Lib (strCells strCells_length strCells_oneCell)

set_option maxRecDepth 100000 in
theorem refT_any (H : Array Value) (h : ByteArray) (x : HashOf H h) (w : World) :
    Calls Try.prog 82 #[.agg H] w fun e w' => e = .returned (.string h) ∧ Below w.heap.size w w' := by
  have hc := run_convert_block (P := Try.prog) (w := w.alloc (.cells H 76)) (e := 5) (s := h) (n := 32) (c := 32) 62 9 Try.underlying62 Try.underlying5 Try.underlying9 x.size.symm (heap_alloc_new w _) x.cells
  go_enter Try.func82, Try.ntmps82
  go_wp2
  go_ret
  exact ⟨rfl, (Below.refl _ _).alloc (Nat.le_refl _) _⟩

/-- An inode held: its numbers' cells, its hash's. -/
theorem ino_held {w : World} {q : Nat} {x : Ino} (h : Holds w q 78 x.cells) : w.cell? ⟨q, 0, none⟩ = some (.int .i64 x.num) ∧ w.cell? ⟨q, 1, none⟩ = some (.int .i64 x.kind) ∧ w.cell? ⟨q, 2, none⟩ = some (.int .i64 x.mode) ∧ w.cell? ⟨q, 3, none⟩ = some (.int .i64 x.links) ∧ w.cell? ⟨q, 4, none⟩ = some (.int .i64 x.size) := by
  refine ⟨?_, ?_, ?_, ?_, ?_⟩ <;> rw [h.cell] <;> rfl
theorem be_of {x : Int} (n : Nat) (hn : n ≤ 64) (h0 : 0 ≤ x) (h1 : x < 9223372036854775808) (w : World) : Calls Try.prog 59 #[.int .i64 x, .int .i64 (n : Int)] w fun e w' => e = .returned (.string (be n x.toNat)) ∧ Below w.heap.size w w' :=
  Be_any x (n : Int) n rfl hn x.toNat (by omega) (by omega) w
theorem Ino.bounds {i : Ino} (h : i.may = true) : (0 ≤ i.num ∧ i.num < 9223372036854775808) ∧ (0 ≤ i.kind ∧ i.kind < 9223372036854775808) ∧ (0 ≤ i.mode ∧ i.mode < 9223372036854775808) ∧ (0 ≤ i.links ∧ i.links < 9223372036854775808) ∧ (0 ≤ i.size ∧ i.size < 9223372036854775808) := by
  unfold Ino.may mayB at h
  have h := of_decide_eq_true h
  omega

set_option maxRecDepth 100000 in
set_option maxHeartbeats 8000000 in
theorem refPut_any (A : Option Addr) (n c B : Nat) (xs : List Ino) (w : World) (h : Inos w B A n xs) (hB : B ≤ w.heap.size) (hn : n ≤ 10000000000000) (s : ByteArray) (x : Int) (hs : putS xs = (s, x)) :
    Calls Try.prog 40 #[.slice A n c] w (PutPost s x w) := by
  have hM := hid (refItabMay_any A n c B xs w h hB hn)
  have hlen := h.1
  have hf := hid h.2.1
  have h' := hid (h.more hB)
  cases hi : itabB xs with
  | false =>
    rw [putS_no hi] at hs
    obtain ⟨rfl, rfl⟩ := Prod.mk.inj hs
    rw [hi] at hM
    clear h hB hi hs
    go_enter Try.func40, Try.ntmps40
    go_wp2_with fail
    refine hM.out.mono ?_
    rintro e w1 ⟨rfl, h1⟩
    have h1' := hid h1
    clear h1
    go_wp2_with fail
    go_ret2
    exact ⟨rfl, h1'.out⟩
  | true =>
    rw [putS_yes hi] at hs
    obtain ⟨rfl, rfl⟩ := Prod.mk.inj hs
    rw [hi] at hM
    have hT := itabB_of hi
    have hle := itab_len hT
    have hall := hid hT.1
    have hbs := be_size 1 n
    have hbe := hid (be_of (x := (n : Int)) 1 (by decide) (by omega) (by omega))
    obtain ⟨s0, hs0⟩ : ∃ s0, (⟨#[84]⟩ : ByteArray) ++ be 1 n = s0 := ⟨_, rfl⟩
    have hend := hid (show tabBytes xs = tabFrom s0 xs from by
      unfold tabBytes
      rw [← hs0, show (⟨#[]⟩ : ByteArray) ++ ⟨#[84]⟩ = ⟨#[84]⟩ from empty_append _, hlen])
    clear h hB hi hs hT
    go_enter Try.func40, Try.ntmps40
    go_wp2_with fail
    refine hM.out.mono ?_
    rintro e w1 ⟨rfl, h1⟩
    have h1' := hid h1
    clear h1
    go_wp2_with fail
    refine (hbe.out _).mono ?_
    rintro e w2 ⟨rfl, h2⟩
    have h2' := hid (h1'.out.trans (h2.mono h1'.out.size))
    clear h2
    go_wp2_with fail
    go_loopw [4, 5] (fun o i wr => ∃ k : Nat, k ≤ n ∧ i = .int .i64 (k : Int) ∧ o = .string (tabFrom s0 (xs.take k)) ∧ Below w.heap.size w wr) (fun _ i _ => n - (intOf i).toNat)
    case atStart => exact ⟨0, Nat.zero_le _, rfl, rfl, h2'.out⟩
    case round =>
      obtain ⟨k, hk, rfl, rfl, hBr⟩ := hrel
      have hBr' := hid hBr
      by_cases hlt : k < n
      · obtain ⟨p, a, hpA, hpB, ha, hfa, hca⟩ := (h'.out.below hBr).get (k := k) hlt
        subst hpA
        have hlt' : (k : Int) < (n : Int) := by omega
        have hi1 : (Try.prog.info? 78).map (·.size) = some a.cells.length := by rw [Ino.len hfa]; exact Try.infoIno
        have hca' := hid hca
        have ha' := hid ha
        have ham := hall.out a (List.mem_of_getElem? ha)
        obtain ⟨⟨b0, b0'⟩, ⟨b1, b1'⟩, ⟨b2, b2'⟩, ⟨b3, b3'⟩, ⟨b4, b4'⟩⟩ := a.bounds ham
        have e0 := hid (fun W => be_of 1 (by decide) b0 b0' W)
        have e1 := hid (fun W => be_of 1 (by decide) b1 b1' W)
        have e2 := hid (fun W => be_of 1 (by decide) b2 b2' W)
        have e3 := hid (fun W => be_of 1 (by decide) b3 b3' W)
        have e4 := hid (fun W => be_of 2 (by decide) b4 b4' W)
        have hroot : HashOf (strCells a.root).toArray a.root := ⟨rfl, hfa⟩
        have e5 := hid (fun W => refT_any _ _ hroot W)
        have hih : (Try.prog.info? 76).map (·.size) = some (strCells a.root).length := by rw [strCells_length, show a.root.size = 32 from hfa]; exact Try.infoHash
        have hth := ino_there wr hfa
        have hsz := ino_size hfa
        have hone := a.one
        obtain ⟨W1, hW1⟩ : ∃ W1, (wr.alloc (.cells z37 78)).setCells wr.heap.size 0 a.cells = W1 := ⟨_, rfl⟩
        obtain ⟨hv, hb1⟩ := ino_var hfa hW1
        have hBW := hid (hBr.trans (hb1.mono hBr.size))
        have hW1' := hid hW1
        obtain ⟨q, hq⟩ : ∃ q, wr.heap.size = q := ⟨_, rfl⟩
        have hq' := hid hq
        rw [hq] at hv
        have hvd := hv.drew
        have hqlt := hid hvd.lt
        have hBd := hid (hBW.out.drew)
        obtain ⟨t0, ht0⟩ : ∃ t, tabFrom s0 (xs.take k) = t := ⟨_, rfl⟩
        have hnext := hid (show tabFrom s0 (xs.take (k + 1)) = t0 ++ be 1 a.num.toNat ++ be 1 a.kind.toNat ++ be 1 a.mode.toNat ++ be 1 a.links.toNat ++ be 2 a.size.toNat ++ a.root from by
          rw [tabFrom_next ha, ht0]
          unfold Ino.bytes
          simp only [append_assoc])
        have ht0s : t0.size ≤ 2000 := by
          rw [← ht0, tabFrom_size fun x hx => hf.out x (List.mem_of_mem_take hx), List.length_take, ← hs0, size_append, be_size]
          show 1 + 1 + 38 * min k xs.length ≤ 2000
          omega
        have hrs : a.root.size = 32 := hfa
        rw [ht0]
        clear hca ha hBr ham hW1 hb1 hv b0 b0' b1 b1' b2 b2' b3 b3' b4 b4' hroot ht0
        go_wp2_with (first
          | ((with_reducible refine at_slot (some 23) ?_); refine wpList_load_any rfl _ _ rfl _ rfl _ _ (by exact hca'.out) Try.underlying78 rfl hi1 ?_)
          | ((with_reducible refine at_slot (some 6) ?_); refine wpList_run rfl (.pointer (some ⟨wr.heap.size, 0, none⟩)) (wr.alloc (.cells z37 78)) (by kernel_rfl) ?_)
          | ((with_reducible refine at_slot none ?_); refine wpList_store_mid rfl 78 (.tmp 6) (.tmp 23) rfl wr.heap.size 0 a.cells.toArray rfl rfl (by exact hth) (by exact hsz) (by exact hone) ?_; rw [hW1'.out, hq'.out])
          | fail)
        refine wp_region_held_drew (S := fun W => Holds W q 78 a.cells) (by kernel_rfl) (by exact hvd) (fun hHeld => ?_)
        refine wpAnyH_take (i := 0) (v := .string t0) rfl (by kernel_rfl) (by kernel_rfl) (by kernel_rfl) (fun _ _ _ h => h) (yieldsIf_move _ rfl rfl rfl) hHeld ?_
        simp only [ly1, ly2, ly3, Act.put, ly5, ly6, ly7]
        refine wpAnyH_take (i := 1) (v := .pointer (some ⟨q, 0, none⟩)) rfl (by kernel_rfl) (by kernel_rfl) (by kernel_rfl) (fun _ _ _ h => h) (.inl ⟨by kernel_rfl, fun w _ => by go_simp⟩) hHeld ?_
        simp only [ly1, ly2, ly3, Act.put, ly5, ly6, ly7]
        refine wpAnyH_take (i := 2) (v := .int .i64 a.num) rfl (by kernel_rfl) (by kernel_rfl) (by kernel_rfl) (fun _ _ _ h => h) (.inl ⟨by kernel_rfl, fun w hw => by have hw1 := (ino_held hw).1; go_simp⟩) hHeld ?_
        simp only [ly1, ly2, ly3, Act.put, ly5, ly6, ly7]
        refine wpAnyH_take (i := 5) (v := .pointer (some ⟨q, 1, none⟩)) rfl (by kernel_rfl) (by kernel_rfl) (by kernel_rfl) (fun _ _ _ h => h) (.inl ⟨by kernel_rfl, fun w _ => by go_simp⟩) hHeld ?_
        simp only [ly1, ly2, ly3, Act.put, ly5, ly6, ly7]
        refine wpAnyH_take (i := 6) (v := .int .i64 a.kind) rfl (by kernel_rfl) (by kernel_rfl) (by kernel_rfl) (fun _ _ _ h => h) (.inl ⟨by kernel_rfl, fun w hw => by have hw1 := (ino_held hw).2.1; go_simp⟩) hHeld ?_
        simp only [ly1, ly2, ly3, Act.put, ly5, ly6, ly7]
        refine wpAnyH_take (i := 9) (v := .pointer (some ⟨q, 2, none⟩)) rfl (by kernel_rfl) (by kernel_rfl) (by kernel_rfl) (fun _ _ _ h => h) (.inl ⟨by kernel_rfl, fun w _ => by go_simp⟩) hHeld ?_
        simp only [ly1, ly2, ly3, Act.put, ly5, ly6, ly7]
        refine wpAnyH_take (i := 10) (v := .int .i64 a.mode) rfl (by kernel_rfl) (by kernel_rfl) (by kernel_rfl) (fun _ _ _ h => h) (.inl ⟨by kernel_rfl, fun w hw => by have hw1 := (ino_held hw).2.2.1; go_simp⟩) hHeld ?_
        simp only [ly1, ly2, ly3, Act.put, ly5, ly6, ly7]
        refine wpAnyH_take (i := 13) (v := .pointer (some ⟨q, 3, none⟩)) rfl (by kernel_rfl) (by kernel_rfl) (by kernel_rfl) (fun _ _ _ h => h) (.inl ⟨by kernel_rfl, fun w _ => by go_simp⟩) hHeld ?_
        simp only [ly1, ly2, ly3, Act.put, ly5, ly6, ly7]
        refine wpAnyH_take (i := 14) (v := .int .i64 a.links) rfl (by kernel_rfl) (by kernel_rfl) (by kernel_rfl) (fun _ _ _ h => h) (.inl ⟨by kernel_rfl, fun w hw => by have hw1 := (ino_held hw).2.2.2.1; go_simp⟩) hHeld ?_
        simp only [ly1, ly2, ly3, Act.put, ly5, ly6, ly7]
        refine wpAnyH_take (i := 17) (v := .pointer (some ⟨q, 4, none⟩)) rfl (by kernel_rfl) (by kernel_rfl) (by kernel_rfl) (fun _ _ _ h => h) (.inl ⟨by kernel_rfl, fun w _ => by go_simp⟩) hHeld ?_
        simp only [ly1, ly2, ly3, Act.put, ly5, ly6, ly7]
        refine wpAnyH_take (i := 18) (v := .int .i64 a.size) rfl (by kernel_rfl) (by kernel_rfl) (by kernel_rfl) (fun _ _ _ h => h) (.inl ⟨by kernel_rfl, fun w hw => by have hw1 := (ino_held hw).2.2.2.2; go_simp⟩) hHeld ?_
        simp only [ly1, ly2, ly3, Act.put, ly5, ly6, ly7]
        refine wpAnyH_take (i := 21) (v := .pointer (some ⟨q, 5, none⟩)) rfl (by kernel_rfl) (by kernel_rfl) (by kernel_rfl) (fun _ _ _ h => h) (.inl ⟨by kernel_rfl, fun w _ => by go_simp⟩) hHeld ?_
        simp only [ly1, ly2, ly3, Act.put, ly5, ly6, ly7]
        refine wpAnyH_take (i := 22) (v := .agg (strCells a.root).toArray) rfl (by kernel_rfl) (by kernel_rfl) (by kernel_rfl) (fun _ _ _ h => h) (yieldsIf_load_mid (by kernel_rfl) _ _ rfl _ _ rfl _ _ (fun w hw => a.root_at hfa hw) Try.underlying76 rfl hih) hHeld ?_
        simp only [ly1, ly2, ly3, Act.put, ly5, ly6, ly7]
        refine wpAnyH_ready (rs := [3]) (by kernel_rfl) (by simp) (AllReadyH.cons rfl (fun K hK => ?_) AllReadyH.nil)
        have hK' := hid hK
        clear hK
        rw [if_pos (by kernel_rfl)]
        simp only [ly1, ly2, ly3]
        go_simp
        refine (e0.out _).mono ?_
        rintro e V0 ⟨rfl, hb⟩
        have hv0 := hvd.below hb hvd.lt
        have hB0 := hid (hBd.out.trans (hb.mono hBd.out.size))
        clear hb
        refine hK'.out _ _ (by exact hv0) (fun hHeld => ?_)
        clear hK' K
        refine wpAnyH_take (i := 4) (v := .string (t0 ++ be 1 a.num.toNat)) rfl (by kernel_rfl) (by kernel_rfl) (by kernel_rfl) (fun _ _ _ h => h) (.inl ⟨by kernel_rfl, fun w _ => by go_simp; simp only [be_size]; omega⟩) hHeld ?_
        simp only [ly1, ly2, ly3, Act.put, ly5, ly6, ly7]
        refine wpAnyH_ready (rs := [7]) (by kernel_rfl) (by simp) (AllReadyH.cons rfl (fun K hK => ?_) AllReadyH.nil)
        have hK' := hid hK
        clear hK
        rw [if_pos (by kernel_rfl)]
        simp only [ly1, ly2, ly3]
        go_simp
        refine (e1.out _).mono ?_
        rintro e V1 ⟨rfl, hb⟩
        have hv1 := hv0.below hb hv0.lt
        have hB1 := hid (hB0.out.trans (hb.mono hB0.out.size))
        clear hb
        refine hK'.out _ _ (by exact hv1) (fun hHeld => ?_)
        clear hK' K
        refine wpAnyH_take (i := 8) (v := .string (t0 ++ be 1 a.num.toNat ++ be 1 a.kind.toNat)) rfl (by kernel_rfl) (by kernel_rfl) (by kernel_rfl) (fun _ _ _ h => h) (.inl ⟨by kernel_rfl, fun w _ => by go_simp; simp only [be_size]; omega⟩) hHeld ?_
        simp only [ly1, ly2, ly3, Act.put, ly5, ly6, ly7]
        refine wpAnyH_ready (rs := [11]) (by kernel_rfl) (by simp) (AllReadyH.cons rfl (fun K hK => ?_) AllReadyH.nil)
        have hK' := hid hK
        clear hK
        rw [if_pos (by kernel_rfl)]
        simp only [ly1, ly2, ly3]
        go_simp
        refine (e2.out _).mono ?_
        rintro e V2 ⟨rfl, hb⟩
        have hv2 := hv1.below hb hv1.lt
        have hB2 := hid (hB1.out.trans (hb.mono hB1.out.size))
        clear hb
        refine hK'.out _ _ (by exact hv2) (fun hHeld => ?_)
        clear hK' K
        refine wpAnyH_take (i := 12) (v := .string (t0 ++ be 1 a.num.toNat ++ be 1 a.kind.toNat ++ be 1 a.mode.toNat)) rfl (by kernel_rfl) (by kernel_rfl) (by kernel_rfl) (fun _ _ _ h => h) (.inl ⟨by kernel_rfl, fun w _ => by go_simp; simp only [be_size]; omega⟩) hHeld ?_
        simp only [ly1, ly2, ly3, Act.put, ly5, ly6, ly7]
        refine wpAnyH_ready (rs := [15]) (by kernel_rfl) (by simp) (AllReadyH.cons rfl (fun K hK => ?_) AllReadyH.nil)
        have hK' := hid hK
        clear hK
        rw [if_pos (by kernel_rfl)]
        simp only [ly1, ly2, ly3]
        go_simp
        refine (e3.out _).mono ?_
        rintro e V3 ⟨rfl, hb⟩
        have hv3 := hv2.below hb hv2.lt
        have hB3 := hid (hB2.out.trans (hb.mono hB2.out.size))
        clear hb
        refine hK'.out _ _ (by exact hv3) (fun hHeld => ?_)
        clear hK' K
        refine wpAnyH_take (i := 16) (v := .string (t0 ++ be 1 a.num.toNat ++ be 1 a.kind.toNat ++ be 1 a.mode.toNat ++ be 1 a.links.toNat)) rfl (by kernel_rfl) (by kernel_rfl) (by kernel_rfl) (fun _ _ _ h => h) (.inl ⟨by kernel_rfl, fun w _ => by go_simp; simp only [be_size]; omega⟩) hHeld ?_
        simp only [ly1, ly2, ly3, Act.put, ly5, ly6, ly7]
        refine wpAnyH_ready (rs := [19]) (by kernel_rfl) (by simp) (AllReadyH.cons rfl (fun K hK => ?_) AllReadyH.nil)
        have hK' := hid hK
        clear hK
        rw [if_pos (by kernel_rfl)]
        simp only [ly1, ly2, ly3]
        go_simp
        refine (e4.out _).mono ?_
        rintro e V4 ⟨rfl, hb⟩
        have hv4 := hv3.below hb hv3.lt
        have hB4 := hid (hB3.out.trans (hb.mono hB3.out.size))
        clear hb
        refine hK'.out _ _ (by exact hv4) (fun hHeld => ?_)
        clear hK' K
        refine wpAnyH_take (i := 20) (v := .string (t0 ++ be 1 a.num.toNat ++ be 1 a.kind.toNat ++ be 1 a.mode.toNat ++ be 1 a.links.toNat ++ be 2 a.size.toNat)) rfl (by kernel_rfl) (by kernel_rfl) (by kernel_rfl) (fun _ _ _ h => h) (.inl ⟨by kernel_rfl, fun w _ => by go_simp; simp only [be_size]; omega⟩) hHeld ?_
        simp only [ly1, ly2, ly3, Act.put, ly5, ly6, ly7]
        refine wpAnyH_ready (rs := [23]) (by kernel_rfl) (by simp) (AllReadyH.cons rfl (fun K hK => ?_) AllReadyH.nil)
        have hK' := hid hK
        clear hK
        rw [if_pos (by kernel_rfl)]
        simp only [ly1, ly2, ly3]
        go_simp
        refine (e5.out _).mono ?_
        rintro e V5 ⟨rfl, hb⟩
        have hv5 := hv4.below hb hv4.lt
        have hB5 := hid (hB4.out.trans (hb.mono hB4.out.size))
        clear hb
        refine hK'.out _ _ (by exact hv5) (fun hHeld => ?_)
        clear hK' K
        refine wpAnyH_take (i := 24) (v := .string (t0 ++ be 1 a.num.toNat ++ be 1 a.kind.toNat ++ be 1 a.mode.toNat ++ be 1 a.links.toNat ++ be 2 a.size.toNat ++ a.root)) rfl (by kernel_rfl) (by kernel_rfl) (by kernel_rfl) (fun _ _ _ h => h) (.inl ⟨by kernel_rfl, fun w _ => by go_simp; simp only [be_size]; omega⟩) hHeld ?_
        simp only [ly1, ly2, ly3, Act.put, ly5, ly6, ly7]
        refine wpAnyH_take (i := 25) (v := .string (t0 ++ be 1 a.num.toNat ++ be 1 a.kind.toNat ++ be 1 a.mode.toNat ++ be 1 a.links.toNat ++ be 2 a.size.toNat ++ a.root)) rfl (by kernel_rfl) (by kernel_rfl) (by kernel_rfl) (fun _ _ _ h => h) (yieldsIf_assign _ rfl rfl rfl) hHeld ?_
        simp only [ly1, ly2, ly3, Act.put, ly5, ly6, ly7]
        refine wpAnyH_done (by kernel_rfl) ?_ _
        rw [← hnext.out]
        go_wp2_with fail
        go_roundw
        case rel => exact ⟨k + 1, by omega, by go_num, rfl, hB5.out⟩
        case measure => simp [intOf]; omega
      · have hlt' : ¬ (k : Int) < (n : Int) := by omega
        have e1 : k = n := by omega
        have hfin : tabFrom s0 (xs.take k) = tabBytes xs := by rw [hend.out, e1, ← hlen, List.take_length]
        rw [hfin]
        clear hBr e1 hfin
        go_wp2_with fail
        go_ret2
        exact ⟨rfl, hBr'.out⟩

end Go.Proofs.Ytapegklffglnoaa
