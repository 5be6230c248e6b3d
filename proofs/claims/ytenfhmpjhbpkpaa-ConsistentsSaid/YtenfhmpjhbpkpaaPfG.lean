/- Layer 10, the reference's side: rises, the walk. -/
import Derived.Test.YtenfhmpjhbpkpaaPfC
namespace Go.Proofs.Ytenfhmpjhbpkpaa
open Go.RowKit
open Go.Lib (strCells strCells_length strCells_oneCell)
attribute [local irreducible] Sha.compress Sha.blocks Sha.sha Sha.pad

theorem rRise_end (h : List UInt8) (n : Nat) (w0 : Bool) (A : Option Addr) (q c B : Nat) (ps : List (List UInt8)) (w : World) (hh : h.length = 32) (hP : Hashs w B A q ps) (hB : B ≤ w.heap.size) (hqc : q ≤ c) :
    Calls Try.prog 57 #[.int .i64 (n : Int), .int .i64 (n : Int), hv h, .bool w0, .slice A q c] w fun e w' => e = .returned (.tuple #[hv (Mth.riseEnd h w0 ps).1, hv (Mth.riseEnd h w0 ps).2.1, .bool (Mth.riseEnd h w0 ps).2.2]) ∧ Below w.heap.size w w' := by
  have hl := hP.len
  cases w0
  · by_cases h1 : q = 1
    · subst h1
      obtain ⟨p, x, rfl, hpB, -, hx, hx32, hc⟩ := hP.get (show 0 < 1 by decide)
      obtain ⟨y, rfl⟩ : ∃ y, ps = [y] := List.length_eq_one_iff.1 hl
      obtain rfl : y = x := by simpa using hx
      have e : p.add (0 * 32) = p := by rw [Nat.zero_mul, add_zero']
      rw [e] at hc
      exact rRise_first h y n p c B w hh hx32 hB hpB hqc hc
    · have e : Mth.riseEnd h false ps = (h, h, false) := by
        unfold Mth.riseEnd
        rw [if_neg (by decide), if_neg (by omega)]
      rw [e]
      exact rRise_not h n A q c w hh h1
  · have e : Mth.riseEnd h true ps = (h, h, decide (q = 0)) := by
      unfold Mth.riseEnd
      rw [if_pos rfl]
      cases ps with
      | nil =>
        have : q = 0 := by simpa using hl.symm
        simp [this]
      | cons x xs =>
        have : q ≠ 0 := by
          intro h0
          rw [h0] at hl
          simp at hl
        simp [this]
    rw [e]
    exact rRise_whole h n A q c w hh

set_option maxRecDepth 100000 in
set_option maxHeartbeats 16000000 in
theorem rRise_any : ∀ (f : Nat) (h : List UInt8) (m n : Nat) (w0 : Bool) (A : Option Addr) (q c : Nat) (ps : List (List UInt8)) (B : Nat) (w : World), h.length = 32 → Hashs w B A q ps → B ≤ w.heap.size → q ≤ c → q ≤ 10000000000000 → 1 ≤ m → m ≤ n → n ≤ f + 1 → n ≤ 1000 →
    Calls Try.prog 57 #[.int .i64 (m : Int), .int .i64 (n : Int), hv h, .bool w0, .slice A q c] w fun e w' => e = .returned (.tuple #[hv (Mth.rise nodeH f h m n w0 ps).1, hv (Mth.rise nodeH f h m n w0 ps).2.1, .bool (Mth.rise nodeH f h m n w0 ps).2.2]) ∧ Below w.heap.size w w' := by
  intro f
  induction f with
  | zero =>
    intro h m n w0 A q c ps B w hh hP hBw hqc hq hm hmn hn hn2
    obtain rfl : n = 1 := by omega
    obtain rfl : m = 1 := by omega
    exact rRise_end h 1 w0 A q c B ps w hh hP hBw hqc
  | succ f ih =>
    intro h m n w0 A q c ps B w hh hP hBw hqc hq hm hmn hn hn2
    have hl := hP.len
    by_cases h1 : m = n
    · subst h1
      have hc := rRise_end h m w0 A q c B ps w hh hP hBw hqc
      simp only [Mth.rise, if_true]
      exact hc
    · by_cases hq0 : q = 0
      · subst hq0
        obtain rfl : ps = [] := List.length_eq_zero_iff.1 hl
        have hc := rRise_none h m n w0 A c w hh h1
        simp only [Mth.rise, if_neg h1, List.getLast?_nil]
        exact hc
      · obtain ⟨p, top, rfl, hpB, htm, htx, ht32, htc⟩ := hP.get (show q - 1 < q by omega)
        have hlast : ps.getLast? = some top := by rw [List.getLast?_eq_getElem?, hl]; exact htx
        obtain ⟨k1, k2, -, -⟩ := Mth.cut_spec n (by omega)
        have hdl := dropLast_take ps q hl
        have hPd := hid (fun W (hW : Below w.heap.size w W) => (hP.below (hW.mono hBw)).take (k := q - 1) (by omega))
        have hcut := hid (fun W => rCut_any n (by omega) (by omega) W)
        obtain ⟨k, hk⟩ : ∃ k, Mth.cut n = k := ⟨_, rfl⟩
        have htc' := hid (fun W (hW : Below w.heap.size w W) => htc.below (hW.mono hBw) (by rw [add_block]; exact hpB))
        have hCt := hid (hash_cells top ht32)
        have hC := hid (hash_cells h hh)
        have hz := hid zero_cells
        have hp32 := fun x (hx : x ∈ ps.take (q - 1)) => hP.2 x (List.mem_of_mem_take hx)
        have hn1i : ¬ (m : Int) = (n : Int) := by omega
        have hq0i : ¬ (q : Int) = 0 := by omega
        have sq := IntWalk.i64_in ((q : Int) - 1) (by omega)
        have q1 : (0 : Int) ≤ (q : Int) - 1 := by omega
        have q2 : (q : Int) - 1 < (q : Int) := by omega
        have q3 : (q : Int) - 1 ≤ (c : Int) := by omega
        have q4 : ((q : Int) - 1).toNat = q - 1 := by omega
        have q5 : (1 : Int) ≤ (q : Int) := by omega
        have hcl : Mth.rise nodeH (f + 1) h m n w0 ps = if m ≤ k then ((Mth.rise nodeH f h m k w0 (ps.take (q - 1))).1, nodeH (Mth.rise nodeH f h m k w0 (ps.take (q - 1))).2.1 top, (Mth.rise nodeH f h m k w0 (ps.take (q - 1))).2.2)
            else (nodeH top (Mth.rise nodeH f h (m - k) (n - k) false (ps.take (q - 1))).1, nodeH top (Mth.rise nodeH f h (m - k) (n - k) false (ps.take (q - 1))).2.1, (Mth.rise nodeH f h (m - k) (n - k) false (ps.take (q - 1))).2.2) := by
          simp only [Mth.rise, if_neg h1, hlast, hk, hdl]
        rw [hk] at hcut k1 k2
        by_cases hik : m ≤ k
        · have hiki : (m : Int) ≤ (k : Int) := by omega
          rw [if_pos hik] at hcl
          have hrec := hid (fun W (hW : Below w.heap.size w W) => ih h m k w0 (some p) (q - 1) c (ps.take (q - 1)) B W hh (hPd.out W hW) (Nat.le_trans hBw hW.size) (by omega) (by omega) hm hik (by omega) (by omega))
          have hrl := rise_len f h m k w0 (ps.take (q - 1)) hh hp32
          obtain ⟨R, hR⟩ : ∃ R, Mth.rise nodeH f h m k w0 (ps.take (q - 1)) = R := ⟨_, rfl⟩
          rw [hR] at hrec hcl hrl
          obtain ⟨r, s, ok⟩ := R
          obtain ⟨hrl, hsl⟩ := hrl
          dsimp only at hrl hsl
          have hCr := hid (hash_cells r hrl)
          have hCs := hid (hash_cells s hsl)
          have hro2 := hid (fun W => rOver_any s top hsl ht32 W)
          have hCn2 := hid (hash_node s top)
          rw [hcl]
          clear hcl hR hrl hsl hP htc hpB htm htx ht32 hlast hdl hh hl hk hp32 ih
          unfold hv at *
          dsimp only at hrec ⊢
          generalize byteCells (nodeH s top) = cn2 at *
          generalize byteCells r = cr at *
          generalize byteCells s = cs at *
          generalize byteCells top = ct at *
          generalize byteCells h = ch at *
          obtain ⟨W0, hW0⟩ : ∃ W0, ((w.alloc (.cells ch.toArray 28)).alloc (.cells z32 28)).alloc (.cells z32 28) = W0 := ⟨_, rfl⟩
          have e1 : (w.alloc (.cells ch.toArray 28)).heap.size = w.heap.size + 1 := by simp
          have e2 : ((w.alloc (.cells ch.toArray 28)).alloc (.cells z32 28)).heap.size = w.heap.size + 2 := by simp
          have hH : Holds W0 w.heap.size 28 ch := by rw [← hW0]; exact ((Holds.new w 28 ch.toArray).alloc _).alloc _
          have hR : Holds W0 (w.heap.size + 1) 28 z32.toList := by rw [← hW0, ← e1]; exact (Holds.new _ 28 z32).alloc _
          have hT : Holds W0 (w.heap.size + 2) 28 z32.toList := by rw [← hW0, ← e2]; exact Holds.new _ 28 z32
          have hbl : Below w.heap.size w W0 := by rw [← hW0]; exact (((Below.refl _ _).alloc (Nat.le_refl _) _).alloc (by simp) _).alloc (by simp; omega) _
          have hW0' := hid hW0
          have hH0 := hid hH
          have hR0 := hid hR
          have hS0 := hid hT
          have hb0 := hid hbl
          have e1' := hid e1
          have e2' := hid e2
          clear hW0 hH hR hT hbl e1 e2
          go_enter Try.func57, Try.ntmps57
          go_wp2_with (first
            | ((with_reducible refine at_slot (some 10) ?_); refine wpList_run rfl (.pointer (some ⟨(w.alloc (.cells ch.toArray 28)).heap.size, 0, none⟩)) ((w.alloc (.cells ch.toArray 28)).alloc (.cells z32 28)) (by kernel_rfl) ?_)
            | ((with_reducible refine at_slot (some 11) ?_); refine wpList_run rfl (.pointer (some ⟨((w.alloc (.cells ch.toArray 28)).alloc (.cells z32 28)).heap.size, 0, none⟩)) (((w.alloc (.cells ch.toArray 28)).alloc (.cells z32 28)).alloc (.cells z32 28)) (by kernel_rfl) ?_; rw [hW0'.out, e1'.out, e2'.out])
            | fail)
          refine (hcut.out _).mono ?_
          rintro e W2 ⟨rfl, hb2⟩
          have hH2 := hid (hH0.out.below hb2 hH0.out.lt)
          have hR2 := hid (hR0.out.below hb2 hR0.out.lt)
          have hS2 := hid (hS0.out.below hb2 hS0.out.lt)
          have hB2 := hid (below_up hb2 hb0.out)
          clear hb2
          rename_i hK1
          refine hK1 _ _ ?_
          clear hK1
          go_wp2_with (first
            | ((with_reducible refine at_slot (some 53) ?_); refine wpList_load_far rfl 28 (.tmp 52) rfl (p.add ((q - 1) * 32)) rfl ct _ (htc'.out _ hB2.out) Try.underlying28 rfl (by exact hCt.out.size') ?_)
            | ((with_reducible refine at_slot (some 14) ?_); refine wpList_run rfl (.pointer (some ⟨W2.heap.size, 0, none⟩)) (W2.alloc (.cells z32 28)) (by kernel_rfl) ?_)
            | ((with_reducible refine at_slot none ?_); refine wpList_store_mid rfl 28 (.tmp 14) (.tmp 53) rfl W2.heap.size 0 ct.toArray rfl rfl (by exact hCt.out.there W2) (by exact hCt.out.size) (by exact hCt.out.one) ?_; generalize hW3 : World.setCells _ _ _ _ = W3; obtain ⟨hT3, hb3⟩ := hCt.out.new hW3; have hT3' := hid hT3; have hH3 := hid (hH2.out.below hb3 hH2.out.lt); have hR3 := hid (hR2.out.below hb3 hR2.out.lt); have hS3 := hid (hS2.out.below hb3 hS2.out.lt); have hB3 := hid (below_up hb3 hB2.out); have hge14 : w.heap.size + 3 ≤ W2.heap.size := (by have := hS2.out.lt; omega); clear hW3 hT3 hb3)
            | fail)
          have hdr : Below W3.heap.size W3 W3.drew := (Below.refl _ _).drew
          have hT4 := hid (hT3'.out.below hdr hT3'.out.lt)
          have hH4 := hid (hH3.out.below hdr hH3.out.lt)
          have hR4 := hid (hR3.out.below hdr hR3.out.lt)
          have hS4 := hid (hS3.out.below hdr hS3.out.lt)
          have hB4 := hid (below_up hdr hB3.out)
          clear hdr hT3' hH3 hR3 hB3 hS3
          refine wp_region_held_drew (S := fun W => Holds W w.heap.size 28 ch) (by kernel_rfl) (by exact hH4.out) (fun hHeld => ?_)
          generalize W3.drew = Wb at *
          have hwb : W2.heap.size < Wb.heap.size := hT4.out.lt
          refine wpAnyH_take (i := 0) (v := .int .i64 (m : Int)) rfl (by kernel_rfl) (by kernel_rfl) (by kernel_rfl) (fun _ _ _ h => h) (yieldsIf_move _ rfl rfl rfl) hHeld ?_
          simp only [ly1, ly2, ly3, Act.put, ly5, ly6, ly7]
          refine wpAnyH_take (i := 1) (v := .int .i64 (k : Int)) rfl (by kernel_rfl) (by kernel_rfl) (by kernel_rfl) (fun _ _ _ h => h) (yieldsIf_move _ rfl rfl rfl) hHeld ?_
          simp only [ly1, ly2, ly3, Act.put, ly5, ly6, ly7]
          refine wpAnyH_take (i := 2) (v := .agg ch.toArray) rfl (by kernel_rfl) (by kernel_rfl) (by kernel_rfl) (fun _ _ _ h => h) (yieldsIf_load_mid (by kernel_rfl) _ _ rfl _ _ rfl _ _ (fun W h => h_all h) Try.underlying28 rfl (by exact hC.out.size')) hHeld ?_
          simp only [ly1, ly2, ly3, Act.put, ly5, ly6, ly7]
          refine wpAnyH_take (i := 3) (v := .bool w0) rfl (by kernel_rfl) (by kernel_rfl) (by kernel_rfl) (fun _ _ _ h => h) (yieldsIf_move _ rfl rfl rfl) hHeld ?_
          simp only [ly1, ly2, ly3, Act.put, ly5, ly6, ly7]
          refine wpAnyH_take (i := 4) (v := .slice (some p) q c) rfl (by kernel_rfl) (by kernel_rfl) (by kernel_rfl) (fun _ _ _ h => h) (yieldsIf_move _ rfl rfl rfl) hHeld ?_
          simp only [ly1, ly2, ly3, Act.put, ly5, ly6, ly7]
          refine wpAnyH_take (i := 5) (v := .slice (some p) q c) rfl (by kernel_rfl) (by kernel_rfl) (by kernel_rfl) (fun _ _ _ h => h) (yieldsIf_move _ rfl rfl rfl) hHeld ?_
          simp only [ly1, ly2, ly3, Act.put, ly5, ly6, ly7]
          refine wpAnyH_take (i := 6) (v := .int .i64 (q : Int)) rfl (by kernel_rfl) (by kernel_rfl) (by kernel_rfl) (fun _ _ _ h => h) (.inl ⟨by kernel_rfl, fun w _ => by go_simp⟩) hHeld ?_
          simp only [ly1, ly2, ly3, Act.put, ly5, ly6, ly7]
          refine wpAnyH_take (i := 7) (v := .int .i64 ((q : Int) - 1)) rfl (by kernel_rfl) (by kernel_rfl) (by kernel_rfl) (fun _ _ _ h => h) (.inl ⟨by kernel_rfl, fun w _ => by go_simp⟩) hHeld ?_
          simp only [ly1, ly2, ly3, Act.put, ly5, ly6, ly7]
          refine wpAnyH_take (i := 8) (v := .slice (some p) (q - 1) c) rfl (by kernel_rfl) (by kernel_rfl) (by kernel_rfl) (fun _ _ _ h => h) (.inl ⟨by kernel_rfl, fun w _ => by go_simp⟩) hHeld ?_
          simp only [ly1, ly2, ly3, Act.put, ly5, ly6, ly7]
          have hb_0 := hid (Below.refl Wb.heap.size Wb)
          refine wpAnyH_ready (rs := [9, 14, 15]) (by kernel_rfl) (by simp) (AllReadyH.cons rfl (fun K hK => ?_) (AllReadyH.cons rfl (fun K hK => ?_) (AllReadyH.cons rfl (fun K hK => ?_) AllReadyH.nil)))
          · skip
            have hK' := hid hK
            clear hK
            rw [if_pos (by kernel_rfl)]
            simp only [ly1, ly2, ly3]
            go_simp
            refine (hrec.out _ (below_up (hb_0.out) hB4.out)).mono ?_
            rintro e W_call_1 ⟨rfl, hbc⟩
            have hb_1 := hid (hb_0.out.trans (hbc.mono hb_0.out.size))
            clear hbc hb_0
            refine hK'.out _ _ (by exact (hH4.out.below hb_1.out hH4.out.lt)) (fun hHeld => ?_)
            clear hK' K
            refine wpAnyH_take (i := 10) (v := .tuple #[.agg cr.toArray, .agg cs.toArray, .bool ok]) rfl (by kernel_rfl) (by kernel_rfl) (by kernel_rfl) (fun _ _ _ h => h) (yieldsIf_move _ rfl rfl rfl) hHeld ?_
            simp only [ly1, ly2, ly3, Act.put, ly5, ly6, ly7]
            refine wpAnyH_take (i := 11) (v := .agg cr.toArray) rfl (by kernel_rfl) (by kernel_rfl) (by kernel_rfl) (fun _ _ _ h => h) (.inl ⟨by kernel_rfl, fun w _ => by go_simp⟩) hHeld ?_
            simp only [ly1, ly2, ly3, Act.put, ly5, ly6, ly7]
            refine wpAnyH_take (i := 12) (v := .agg cs.toArray) rfl (by kernel_rfl) (by kernel_rfl) (by kernel_rfl) (fun _ _ _ h => h) (.inl ⟨by kernel_rfl, fun w _ => by go_simp⟩) hHeld ?_
            simp only [ly1, ly2, ly3, Act.put, ly5, ly6, ly7]
            refine wpAnyH_take (i := 13) (v := .bool ok) rfl (by kernel_rfl) (by kernel_rfl) (by kernel_rfl) (fun _ _ _ h => h) (.inl ⟨by kernel_rfl, fun w _ => by go_simp⟩) hHeld ?_
            simp only [ly1, ly2, ly3, Act.put, ly5, ly6, ly7]
            refine wpAnyH_ready (rs := [14, 15]) (by kernel_rfl) (by simp) (AllReadyH.cons rfl (fun K hK => ?_) (AllReadyH.cons rfl (fun K hK => ?_) AllReadyH.nil))
            · skip
              have hK' := hid hK
              clear hK
              rw [if_pos (by kernel_rfl)]
              simp only [ly1, ly2, ly3]
              obtain ⟨g1, hqg1⟩ : ∃ g, g = W_call_1.heap.size := ⟨_, rfl⟩
              refine wp_run (.pointer (some ⟨g1, 0, none⟩)) (W_call_1.alloc (.cells z32 28)) (by rw [hqg1]; kernel_rfl) ?_
              have hb_2 := hid (hb_1.out.alloc hb_1.out.size (.cells z32 28))
              have hN2_g1 := hid (show Holds (W_call_1.alloc (.cells z32 28)) g1 28 (z32).toList from by rw [hqg1]; exact Holds.new W_call_1 _ _)
              have hgeg1 : Wb.heap.size ≤ g1 := by rw [hqg1]; exact hb_1.out.size
              generalize hWg1 : W_call_1.alloc (.cells z32 28) = W_g1_2 at *
              clear hWg1 hqg1 hb_1
              refine hK'.out _ _ (by exact (hH4.out.below hb_2.out hH4.out.lt)) (fun hHeld => ?_)
              clear hK' K
              refine wpAnyH_ready (rs := [15]) (by kernel_rfl) (by simp) (AllReadyH.cons rfl (fun K hK => ?_) AllReadyH.nil)
              have hK' := hid hK
              clear hK
              rw [if_pos (by kernel_rfl)]
              simp only [ly1, ly2, ly3]
              obtain ⟨g2, hqg2⟩ : ∃ g, g = W_g1_2.heap.size := ⟨_, rfl⟩
              refine wp_run (.pointer (some ⟨g2, 0, none⟩)) (W_g1_2.alloc (.cells z32 28)) (by rw [hqg2]; kernel_rfl) ?_
              have hb_3 := hid (hb_2.out.alloc hb_2.out.size (.cells z32 28))
              have hN3_g2 := hid (show Holds (W_g1_2.alloc (.cells z32 28)) g2 28 (z32).toList from by rw [hqg2]; exact Holds.new W_g1_2 _ _)
              have hgeg2 : Wb.heap.size ≤ g2 := by rw [hqg2]; exact hb_2.out.size
              have hN3_g1 := hid (hN2_g1.out.alloc (.cells z32 28))
              have hne_g1_g2 : g1 ≠ g2 := by have := hN2_g1.out.lt; omega
              generalize hWg2 : W_g1_2.alloc (.cells z32 28) = W_g2_3 at *
              clear hWg2 hqg2 hb_2 hN2_g1
              refine hK'.out _ _ (by exact (hH4.out.below hb_3.out hH4.out.lt)) (fun hHeld => ?_)
              clear hK' K
              refine wpAnyH_ready (rs := [16]) (by kernel_rfl) (by simp) (AllReadyH.cons rfl (fun K hK => ?_) AllReadyH.nil)
              have hK' := hid hK
              clear hK
              rw [if_pos (by kernel_rfl)]
              simp only [ly1, ly2, ly3]
              refine wp_store_mid _ _ _ rfl g1 0 cr.toArray rfl rfl (by exact hCr.out.there' hN3_g1.out rfl) (by exact hCr.out.size) (by exact hCr.out.one) ?_
              generalize hW5 : World.setCells _ _ _ _ = W5
              obtain ⟨hG5, hb5⟩ := hCr.out.set hN3_g1.out rfl hW5 hb_3.out (by omega)
              have hG5' := hid hG5
              have hF5 := hid (holds_far hN3_g2.out (Ne.symm hne_g1_g2) hW5)
              have hb5' := hid hb5
              have hH5 := hid (hH4.out.below hb5 hH4.out.lt)
              clear hW5 hG5 hb5 hb_3 hN3_g1 hN3_g2
              refine hK'.out _ _ (by exact hH5.out) (fun hHeld => ?_)
              clear hK' K
              refine wpAnyH_ready (rs := [17]) (by kernel_rfl) (by simp) (AllReadyH.cons rfl (fun K hK => ?_) AllReadyH.nil)
              have hK' := hid hK
              clear hK
              rw [if_pos (by kernel_rfl)]
              simp only [ly1, ly2, ly3]
              refine wp_store_mid _ _ _ rfl g2 0 cs.toArray rfl rfl (by exact hCs.out.there' hF5.out rfl) (by exact hCs.out.size) (by exact hCs.out.one) ?_
              generalize hW6 : World.setCells _ _ _ _ = W6
              obtain ⟨hF6, hb6⟩ := hCs.out.set hF5.out rfl hW6 hb5'.out (by omega)
              have hF6' := hid hF6
              have hG6 := hid (holds_far hG5'.out hne_g1_g2 hW6)
              have hT6 := hid (hT4.out.below hb6 hT4.out.lt)
              have hH6 := hid (hH4.out.below hb6 hH4.out.lt)
              have hR6 := hid (hR4.out.below hb6 hR4.out.lt)
              have hS6 := hid (hS4.out.below hb6 hS4.out.lt)
              have hB6 := hid (below_up hb6 hB4.out)
              clear hW6 hF6 hb6 hb5' hF5 hG5' hH5
              refine hK'.out _ _ (by exact hH6.out) (fun hHeld => ?_)
              clear hK' K
              refine wpAnyH_take (i := 18) (v := .bool ok) rfl (by kernel_rfl) (by kernel_rfl) (by kernel_rfl) (fun _ _ _ h => h) (yieldsIf_assign _ rfl rfl rfl) hHeld ?_
              simp only [ly1, ly2, ly3, Act.put, ly5, ly6, ly7]
              refine wpAnyH_done (by kernel_rfl) ?_ _
              clear hHeld
              have hdr : Below W6.heap.size W6 W6.drew := (Below.refl _ _).drew
              have hF7 := hid (hF6'.out.below hdr hF6'.out.lt)
              have hG7 := hid (hG6.out.below hdr hG6.out.lt)
              have hT7 := hid (hT6.out.below hdr hT6.out.lt)
              have hR7 := hid (hR6.out.below hdr hR6.out.lt)
              have hS7 := hid (hS6.out.below hdr hS6.out.lt)
              have hB7 := hid (below_up hdr hB6.out)
              clear hdr hF6' hG6 hT6 hH6 hR6 hS6 hB6
              go_wp2_with fail
              refine wp_region_held_drew (S := fun W => (Holds W g1 28 cr ∧ Holds W g2 28 cs) ∧ Holds W W2.heap.size 28 ct) (by kernel_rfl) (by exact ⟨⟨hG7.out, hF7.out⟩, hT7.out⟩) (fun hHeld => ?_)
              generalize W6.drew = Wc at *
              refine wpAnyH_take (i := 0) (v := .agg cr.toArray) rfl (by kernel_rfl) (by kernel_rfl) (by kernel_rfl) (fun _ _ _ h => h) (yieldsIf_load_mid (by kernel_rfl) _ _ rfl _ _ rfl _ _ (fun W h => h_all h.1.1) Try.underlying28 rfl (by exact hCr.out.size')) hHeld ?_
              simp only [ly1, ly2, ly3, Act.put, ly5, ly6, ly7]
              refine wpAnyH_take (i := 1) (v := .agg cs.toArray) rfl (by kernel_rfl) (by kernel_rfl) (by kernel_rfl) (fun _ _ _ h => h) (yieldsIf_load_mid (by kernel_rfl) _ _ rfl _ _ rfl _ _ (fun W h => h_all h.1.2) Try.underlying28 rfl (by exact hCs.out.size')) hHeld ?_
              simp only [ly1, ly2, ly3, Act.put, ly5, ly6, ly7]
              refine wpAnyH_take (i := 2) (v := .agg ct.toArray) rfl (by kernel_rfl) (by kernel_rfl) (by kernel_rfl) (fun _ _ _ h => h) (yieldsIf_load_mid (by kernel_rfl) _ _ rfl _ _ rfl _ _ (fun W h => h_all h.2) Try.underlying28 rfl (by exact hCt.out.size')) hHeld ?_
              simp only [ly1, ly2, ly3, Act.put, ly5, ly6, ly7]
              refine wpAnyH_take (i := 4) (v := .bool ok) rfl (by kernel_rfl) (by kernel_rfl) (by kernel_rfl) (fun _ _ _ h => h) (yieldsIf_move _ rfl rfl rfl) hHeld ?_
              simp only [ly1, ly2, ly3, Act.put, ly5, ly6, ly7]
              refine wpAnyH_ready (rs := [3]) (by kernel_rfl) (by simp) (AllReadyH.cons rfl (fun K hK => ?_) AllReadyH.nil)
              have hK' := hid hK
              clear hK
              rw [if_pos (by kernel_rfl)]
              simp only [ly1, ly2, ly3]
              go_simp
              refine (hro2.out _).mono ?_
              rintro e WY ⟨rfl, hb8⟩
              have hFY := hid (hF7.out.below hb8 hF7.out.lt)
              have hGY := hid (hG7.out.below hb8 hG7.out.lt)
              have hTY := hid (hT7.out.below hb8 hT7.out.lt)
              have hRY := hid (hR7.out.below hb8 hR7.out.lt)
              have hSY := hid (hS7.out.below hb8 hS7.out.lt)
              have hBY := hid (below_up hb8 hB7.out)
              clear hb8 hF7 hG7 hT7 hR7 hS7 hB7
              refine hK'.out _ _ (by exact ⟨⟨hGY.out, hFY.out⟩, hTY.out⟩) (fun hHeld => ?_)
              clear hK' K
              refine wpAnyH_ready (rs := [5]) (by kernel_rfl) (by simp) (AllReadyH.cons rfl (fun K hK => ?_) AllReadyH.nil)
              have hK' := hid hK
              clear hK
              rw [if_pos (by kernel_rfl)]
              simp only [ly1, ly2, ly3]
              refine wp_store_mid _ _ _ rfl (w.heap.size + 1) 0 cr.toArray rfl rfl (by exact hCr.out.there' hRY.out rfl) (by exact hCr.out.size) (by exact hCr.out.one) ?_
              generalize hX1 : World.setCells _ _ _ _ = X1
              obtain ⟨hRx, hbx⟩ := hCr.out.set hRY.out rfl hX1 hBY.out (by omega)
              have hRx1 := hid hRx
              have hbx1 := hid hbx
              have hSx1 := hid (holds_far hSY.out (by omega) hX1)
              have hFx1 := hid (holds_far hFY.out (by omega) hX1)
              have hGx1 := hid (holds_far hGY.out (by omega) hX1)
              have hTx1 := hid (holds_far hTY.out (by omega) hX1)
              clear hX1 hRx hbx
              refine hK'.out _ _ (by exact ⟨⟨hGx1.out, hFx1.out⟩, hTx1.out⟩) (fun hHeld => ?_)
              clear hK' K
              refine wpAnyH_ready (rs := [6]) (by kernel_rfl) (by simp) (AllReadyH.cons rfl (fun K hK => ?_) AllReadyH.nil)
              have hK' := hid hK
              clear hK
              rw [if_pos (by kernel_rfl)]
              simp only [ly1, ly2, ly3]
              refine wp_store_mid _ _ _ rfl (w.heap.size + 2) 0 cn2.toArray rfl rfl (by exact hCn2.out.there' hSx1.out rfl) (by exact hCn2.out.size) (by exact hCn2.out.one) ?_
              generalize hX2 : World.setCells _ _ _ _ = X2
              obtain ⟨hSx, hbx⟩ := hCn2.out.set hSx1.out rfl hX2 hbx1.out (by omega)
              have hSx2 := hid hSx
              have hbx2 := hid hbx
              have hRx2 := hid (holds_far hRx1.out (by omega) hX2)
              have hFx2 := hid (holds_far hFx1.out (by omega) hX2)
              have hGx2 := hid (holds_far hGx1.out (by omega) hX2)
              have hTx2 := hid (holds_far hTx1.out (by omega) hX2)
              clear hX2 hSx hbx
              refine hK'.out _ _ (by exact ⟨⟨hGx2.out, hFx2.out⟩, hTx2.out⟩) (fun hHeld => ?_)
              clear hK' K
              refine wpAnyH_take (i := 7) (v := .bool ok) rfl (by kernel_rfl) (by kernel_rfl) (by kernel_rfl) (fun _ _ _ h => h) (yieldsIf_assign _ rfl rfl rfl) hHeld ?_
              simp only [ly1, ly2, ly3, Act.put, ly5, ly6, ly7]
              refine wpAnyH_done (by kernel_rfl) ?_ _
              clear hHeld
              go_wp2_with fail
              exact bodyPost_ret (results_cct rfl _ _ (w.heap.size + 1) (w.heap.size + 2) 28 _ _ _ rfl rfl hRx2.out hSx2.out (.bool ok) rfl Try.underlying28 rfl (by exact hCr.out.size) (by exact hCn2.out.size)) rfl ⟨rfl, hbx2.out⟩

            · skip
              have hK' := hid hK
              clear hK
              rw [if_pos (by kernel_rfl)]
              simp only [ly1, ly2, ly3]
              obtain ⟨g2, hqg2⟩ : ∃ g, g = W_call_1.heap.size := ⟨_, rfl⟩
              refine wp_run (.pointer (some ⟨g2, 0, none⟩)) (W_call_1.alloc (.cells z32 28)) (by rw [hqg2]; kernel_rfl) ?_
              have hb_2 := hid (hb_1.out.alloc hb_1.out.size (.cells z32 28))
              have hN2_g2 := hid (show Holds (W_call_1.alloc (.cells z32 28)) g2 28 (z32).toList from by rw [hqg2]; exact Holds.new W_call_1 _ _)
              have hgeg2 : Wb.heap.size ≤ g2 := by rw [hqg2]; exact hb_1.out.size
              generalize hWg2 : W_call_1.alloc (.cells z32 28) = W_g2_2 at *
              clear hWg2 hqg2 hb_1
              refine hK'.out _ _ (by exact (hH4.out.below hb_2.out hH4.out.lt)) (fun hHeld => ?_)
              clear hK' K
              refine wpAnyH_ready (rs := [14]) (by kernel_rfl) (by simp) (AllReadyH.cons rfl (fun K hK => ?_) AllReadyH.nil)
              have hK' := hid hK
              clear hK
              rw [if_pos (by kernel_rfl)]
              simp only [ly1, ly2, ly3]
              obtain ⟨g1, hqg1⟩ : ∃ g, g = W_g2_2.heap.size := ⟨_, rfl⟩
              refine wp_run (.pointer (some ⟨g1, 0, none⟩)) (W_g2_2.alloc (.cells z32 28)) (by rw [hqg1]; kernel_rfl) ?_
              have hb_3 := hid (hb_2.out.alloc hb_2.out.size (.cells z32 28))
              have hN3_g1 := hid (show Holds (W_g2_2.alloc (.cells z32 28)) g1 28 (z32).toList from by rw [hqg1]; exact Holds.new W_g2_2 _ _)
              have hgeg1 : Wb.heap.size ≤ g1 := by rw [hqg1]; exact hb_2.out.size
              have hN3_g2 := hid (hN2_g2.out.alloc (.cells z32 28))
              have hne_g1_g2 : g1 ≠ g2 := by have := hN2_g2.out.lt; omega
              generalize hWg1 : W_g2_2.alloc (.cells z32 28) = W_g1_3 at *
              clear hWg1 hqg1 hb_2 hN2_g2
              refine hK'.out _ _ (by exact (hH4.out.below hb_3.out hH4.out.lt)) (fun hHeld => ?_)
              clear hK' K
              refine wpAnyH_ready (rs := [16]) (by kernel_rfl) (by simp) (AllReadyH.cons rfl (fun K hK => ?_) AllReadyH.nil)
              have hK' := hid hK
              clear hK
              rw [if_pos (by kernel_rfl)]
              simp only [ly1, ly2, ly3]
              refine wp_store_mid _ _ _ rfl g1 0 cr.toArray rfl rfl (by exact hCr.out.there' hN3_g1.out rfl) (by exact hCr.out.size) (by exact hCr.out.one) ?_
              generalize hW5 : World.setCells _ _ _ _ = W5
              obtain ⟨hG5, hb5⟩ := hCr.out.set hN3_g1.out rfl hW5 hb_3.out (by omega)
              have hG5' := hid hG5
              have hF5 := hid (holds_far hN3_g2.out (Ne.symm hne_g1_g2) hW5)
              have hb5' := hid hb5
              have hH5 := hid (hH4.out.below hb5 hH4.out.lt)
              clear hW5 hG5 hb5 hb_3 hN3_g1 hN3_g2
              refine hK'.out _ _ (by exact hH5.out) (fun hHeld => ?_)
              clear hK' K
              refine wpAnyH_ready (rs := [17]) (by kernel_rfl) (by simp) (AllReadyH.cons rfl (fun K hK => ?_) AllReadyH.nil)
              have hK' := hid hK
              clear hK
              rw [if_pos (by kernel_rfl)]
              simp only [ly1, ly2, ly3]
              refine wp_store_mid _ _ _ rfl g2 0 cs.toArray rfl rfl (by exact hCs.out.there' hF5.out rfl) (by exact hCs.out.size) (by exact hCs.out.one) ?_
              generalize hW6 : World.setCells _ _ _ _ = W6
              obtain ⟨hF6, hb6⟩ := hCs.out.set hF5.out rfl hW6 hb5'.out (by omega)
              have hF6' := hid hF6
              have hG6 := hid (holds_far hG5'.out hne_g1_g2 hW6)
              have hT6 := hid (hT4.out.below hb6 hT4.out.lt)
              have hH6 := hid (hH4.out.below hb6 hH4.out.lt)
              have hR6 := hid (hR4.out.below hb6 hR4.out.lt)
              have hS6 := hid (hS4.out.below hb6 hS4.out.lt)
              have hB6 := hid (below_up hb6 hB4.out)
              clear hW6 hF6 hb6 hb5' hF5 hG5' hH5
              refine hK'.out _ _ (by exact hH6.out) (fun hHeld => ?_)
              clear hK' K
              refine wpAnyH_take (i := 18) (v := .bool ok) rfl (by kernel_rfl) (by kernel_rfl) (by kernel_rfl) (fun _ _ _ h => h) (yieldsIf_assign _ rfl rfl rfl) hHeld ?_
              simp only [ly1, ly2, ly3, Act.put, ly5, ly6, ly7]
              refine wpAnyH_done (by kernel_rfl) ?_ _
              clear hHeld
              have hdr : Below W6.heap.size W6 W6.drew := (Below.refl _ _).drew
              have hF7 := hid (hF6'.out.below hdr hF6'.out.lt)
              have hG7 := hid (hG6.out.below hdr hG6.out.lt)
              have hT7 := hid (hT6.out.below hdr hT6.out.lt)
              have hR7 := hid (hR6.out.below hdr hR6.out.lt)
              have hS7 := hid (hS6.out.below hdr hS6.out.lt)
              have hB7 := hid (below_up hdr hB6.out)
              clear hdr hF6' hG6 hT6 hH6 hR6 hS6 hB6
              go_wp2_with fail
              refine wp_region_held_drew (S := fun W => (Holds W g1 28 cr ∧ Holds W g2 28 cs) ∧ Holds W W2.heap.size 28 ct) (by kernel_rfl) (by exact ⟨⟨hG7.out, hF7.out⟩, hT7.out⟩) (fun hHeld => ?_)
              generalize W6.drew = Wc at *
              refine wpAnyH_take (i := 0) (v := .agg cr.toArray) rfl (by kernel_rfl) (by kernel_rfl) (by kernel_rfl) (fun _ _ _ h => h) (yieldsIf_load_mid (by kernel_rfl) _ _ rfl _ _ rfl _ _ (fun W h => h_all h.1.1) Try.underlying28 rfl (by exact hCr.out.size')) hHeld ?_
              simp only [ly1, ly2, ly3, Act.put, ly5, ly6, ly7]
              refine wpAnyH_take (i := 1) (v := .agg cs.toArray) rfl (by kernel_rfl) (by kernel_rfl) (by kernel_rfl) (fun _ _ _ h => h) (yieldsIf_load_mid (by kernel_rfl) _ _ rfl _ _ rfl _ _ (fun W h => h_all h.1.2) Try.underlying28 rfl (by exact hCs.out.size')) hHeld ?_
              simp only [ly1, ly2, ly3, Act.put, ly5, ly6, ly7]
              refine wpAnyH_take (i := 2) (v := .agg ct.toArray) rfl (by kernel_rfl) (by kernel_rfl) (by kernel_rfl) (fun _ _ _ h => h) (yieldsIf_load_mid (by kernel_rfl) _ _ rfl _ _ rfl _ _ (fun W h => h_all h.2) Try.underlying28 rfl (by exact hCt.out.size')) hHeld ?_
              simp only [ly1, ly2, ly3, Act.put, ly5, ly6, ly7]
              refine wpAnyH_take (i := 4) (v := .bool ok) rfl (by kernel_rfl) (by kernel_rfl) (by kernel_rfl) (fun _ _ _ h => h) (yieldsIf_move _ rfl rfl rfl) hHeld ?_
              simp only [ly1, ly2, ly3, Act.put, ly5, ly6, ly7]
              refine wpAnyH_ready (rs := [3]) (by kernel_rfl) (by simp) (AllReadyH.cons rfl (fun K hK => ?_) AllReadyH.nil)
              have hK' := hid hK
              clear hK
              rw [if_pos (by kernel_rfl)]
              simp only [ly1, ly2, ly3]
              go_simp
              refine (hro2.out _).mono ?_
              rintro e WY ⟨rfl, hb8⟩
              have hFY := hid (hF7.out.below hb8 hF7.out.lt)
              have hGY := hid (hG7.out.below hb8 hG7.out.lt)
              have hTY := hid (hT7.out.below hb8 hT7.out.lt)
              have hRY := hid (hR7.out.below hb8 hR7.out.lt)
              have hSY := hid (hS7.out.below hb8 hS7.out.lt)
              have hBY := hid (below_up hb8 hB7.out)
              clear hb8 hF7 hG7 hT7 hR7 hS7 hB7
              refine hK'.out _ _ (by exact ⟨⟨hGY.out, hFY.out⟩, hTY.out⟩) (fun hHeld => ?_)
              clear hK' K
              refine wpAnyH_ready (rs := [5]) (by kernel_rfl) (by simp) (AllReadyH.cons rfl (fun K hK => ?_) AllReadyH.nil)
              have hK' := hid hK
              clear hK
              rw [if_pos (by kernel_rfl)]
              simp only [ly1, ly2, ly3]
              refine wp_store_mid _ _ _ rfl (w.heap.size + 1) 0 cr.toArray rfl rfl (by exact hCr.out.there' hRY.out rfl) (by exact hCr.out.size) (by exact hCr.out.one) ?_
              generalize hX1 : World.setCells _ _ _ _ = X1
              obtain ⟨hRx, hbx⟩ := hCr.out.set hRY.out rfl hX1 hBY.out (by omega)
              have hRx1 := hid hRx
              have hbx1 := hid hbx
              have hSx1 := hid (holds_far hSY.out (by omega) hX1)
              have hFx1 := hid (holds_far hFY.out (by omega) hX1)
              have hGx1 := hid (holds_far hGY.out (by omega) hX1)
              have hTx1 := hid (holds_far hTY.out (by omega) hX1)
              clear hX1 hRx hbx
              refine hK'.out _ _ (by exact ⟨⟨hGx1.out, hFx1.out⟩, hTx1.out⟩) (fun hHeld => ?_)
              clear hK' K
              refine wpAnyH_ready (rs := [6]) (by kernel_rfl) (by simp) (AllReadyH.cons rfl (fun K hK => ?_) AllReadyH.nil)
              have hK' := hid hK
              clear hK
              rw [if_pos (by kernel_rfl)]
              simp only [ly1, ly2, ly3]
              refine wp_store_mid _ _ _ rfl (w.heap.size + 2) 0 cn2.toArray rfl rfl (by exact hCn2.out.there' hSx1.out rfl) (by exact hCn2.out.size) (by exact hCn2.out.one) ?_
              generalize hX2 : World.setCells _ _ _ _ = X2
              obtain ⟨hSx, hbx⟩ := hCn2.out.set hSx1.out rfl hX2 hbx1.out (by omega)
              have hSx2 := hid hSx
              have hbx2 := hid hbx
              have hRx2 := hid (holds_far hRx1.out (by omega) hX2)
              have hFx2 := hid (holds_far hFx1.out (by omega) hX2)
              have hGx2 := hid (holds_far hGx1.out (by omega) hX2)
              have hTx2 := hid (holds_far hTx1.out (by omega) hX2)
              clear hX2 hSx hbx
              refine hK'.out _ _ (by exact ⟨⟨hGx2.out, hFx2.out⟩, hTx2.out⟩) (fun hHeld => ?_)
              clear hK' K
              refine wpAnyH_take (i := 7) (v := .bool ok) rfl (by kernel_rfl) (by kernel_rfl) (by kernel_rfl) (fun _ _ _ h => h) (yieldsIf_assign _ rfl rfl rfl) hHeld ?_
              simp only [ly1, ly2, ly3, Act.put, ly5, ly6, ly7]
              refine wpAnyH_done (by kernel_rfl) ?_ _
              clear hHeld
              go_wp2_with fail
              exact bodyPost_ret (results_cct rfl _ _ (w.heap.size + 1) (w.heap.size + 2) 28 _ _ _ rfl rfl hRx2.out hSx2.out (.bool ok) rfl Try.underlying28 rfl (by exact hCr.out.size) (by exact hCn2.out.size)) rfl ⟨rfl, hbx2.out⟩

          · skip
            have hK' := hid hK
            clear hK
            rw [if_pos (by kernel_rfl)]
            simp only [ly1, ly2, ly3]
            obtain ⟨g1, hqg1⟩ : ∃ g, g = Wb.heap.size := ⟨_, rfl⟩
            refine wp_run (.pointer (some ⟨g1, 0, none⟩)) (Wb.alloc (.cells z32 28)) (by rw [hqg1]; kernel_rfl) ?_
            have hb_1 := hid (hb_0.out.alloc hb_0.out.size (.cells z32 28))
            have hN1_g1 := hid (show Holds (Wb.alloc (.cells z32 28)) g1 28 (z32).toList from by rw [hqg1]; exact Holds.new Wb _ _)
            have hgeg1 : Wb.heap.size ≤ g1 := by rw [hqg1]; exact hb_0.out.size
            generalize hWg1 : Wb.alloc (.cells z32 28) = W_g1_1 at *
            clear hWg1 hqg1 hb_0
            refine hK'.out _ _ (by exact (hH4.out.below hb_1.out hH4.out.lt)) (fun hHeld => ?_)
            clear hK' K
            refine wpAnyH_ready (rs := [9, 15]) (by kernel_rfl) (by simp) (AllReadyH.cons rfl (fun K hK => ?_) (AllReadyH.cons rfl (fun K hK => ?_) AllReadyH.nil))
            · skip
              have hK' := hid hK
              clear hK
              rw [if_pos (by kernel_rfl)]
              simp only [ly1, ly2, ly3]
              go_simp
              refine (hrec.out _ (below_up (hb_1.out) hB4.out)).mono ?_
              rintro e W_call_2 ⟨rfl, hbc⟩
              have hb_2 := hid (hb_1.out.trans (hbc.mono hb_1.out.size))
              have hN2_g1 := hid (hN1_g1.out.below hbc hN1_g1.out.lt)
              clear hbc hb_1 hN1_g1
              refine hK'.out _ _ (by exact (hH4.out.below hb_2.out hH4.out.lt)) (fun hHeld => ?_)
              clear hK' K
              refine wpAnyH_take (i := 10) (v := .tuple #[.agg cr.toArray, .agg cs.toArray, .bool ok]) rfl (by kernel_rfl) (by kernel_rfl) (by kernel_rfl) (fun _ _ _ h => h) (yieldsIf_move _ rfl rfl rfl) hHeld ?_
              simp only [ly1, ly2, ly3, Act.put, ly5, ly6, ly7]
              refine wpAnyH_take (i := 11) (v := .agg cr.toArray) rfl (by kernel_rfl) (by kernel_rfl) (by kernel_rfl) (fun _ _ _ h => h) (.inl ⟨by kernel_rfl, fun w _ => by go_simp⟩) hHeld ?_
              simp only [ly1, ly2, ly3, Act.put, ly5, ly6, ly7]
              refine wpAnyH_take (i := 12) (v := .agg cs.toArray) rfl (by kernel_rfl) (by kernel_rfl) (by kernel_rfl) (fun _ _ _ h => h) (.inl ⟨by kernel_rfl, fun w _ => by go_simp⟩) hHeld ?_
              simp only [ly1, ly2, ly3, Act.put, ly5, ly6, ly7]
              refine wpAnyH_take (i := 13) (v := .bool ok) rfl (by kernel_rfl) (by kernel_rfl) (by kernel_rfl) (fun _ _ _ h => h) (.inl ⟨by kernel_rfl, fun w _ => by go_simp⟩) hHeld ?_
              simp only [ly1, ly2, ly3, Act.put, ly5, ly6, ly7]
              refine wpAnyH_ready (rs := [15]) (by kernel_rfl) (by simp) (AllReadyH.cons rfl (fun K hK => ?_) AllReadyH.nil)
              have hK' := hid hK
              clear hK
              rw [if_pos (by kernel_rfl)]
              simp only [ly1, ly2, ly3]
              obtain ⟨g2, hqg2⟩ : ∃ g, g = W_call_2.heap.size := ⟨_, rfl⟩
              refine wp_run (.pointer (some ⟨g2, 0, none⟩)) (W_call_2.alloc (.cells z32 28)) (by rw [hqg2]; kernel_rfl) ?_
              have hb_3 := hid (hb_2.out.alloc hb_2.out.size (.cells z32 28))
              have hN3_g2 := hid (show Holds (W_call_2.alloc (.cells z32 28)) g2 28 (z32).toList from by rw [hqg2]; exact Holds.new W_call_2 _ _)
              have hgeg2 : Wb.heap.size ≤ g2 := by rw [hqg2]; exact hb_2.out.size
              have hN3_g1 := hid (hN2_g1.out.alloc (.cells z32 28))
              have hne_g1_g2 : g1 ≠ g2 := by have := hN2_g1.out.lt; omega
              generalize hWg2 : W_call_2.alloc (.cells z32 28) = W_g2_3 at *
              clear hWg2 hqg2 hb_2 hN2_g1
              refine hK'.out _ _ (by exact (hH4.out.below hb_3.out hH4.out.lt)) (fun hHeld => ?_)
              clear hK' K
              refine wpAnyH_ready (rs := [16]) (by kernel_rfl) (by simp) (AllReadyH.cons rfl (fun K hK => ?_) AllReadyH.nil)
              have hK' := hid hK
              clear hK
              rw [if_pos (by kernel_rfl)]
              simp only [ly1, ly2, ly3]
              refine wp_store_mid _ _ _ rfl g1 0 cr.toArray rfl rfl (by exact hCr.out.there' hN3_g1.out rfl) (by exact hCr.out.size) (by exact hCr.out.one) ?_
              generalize hW5 : World.setCells _ _ _ _ = W5
              obtain ⟨hG5, hb5⟩ := hCr.out.set hN3_g1.out rfl hW5 hb_3.out (by omega)
              have hG5' := hid hG5
              have hF5 := hid (holds_far hN3_g2.out (Ne.symm hne_g1_g2) hW5)
              have hb5' := hid hb5
              have hH5 := hid (hH4.out.below hb5 hH4.out.lt)
              clear hW5 hG5 hb5 hb_3 hN3_g1 hN3_g2
              refine hK'.out _ _ (by exact hH5.out) (fun hHeld => ?_)
              clear hK' K
              refine wpAnyH_ready (rs := [17]) (by kernel_rfl) (by simp) (AllReadyH.cons rfl (fun K hK => ?_) AllReadyH.nil)
              have hK' := hid hK
              clear hK
              rw [if_pos (by kernel_rfl)]
              simp only [ly1, ly2, ly3]
              refine wp_store_mid _ _ _ rfl g2 0 cs.toArray rfl rfl (by exact hCs.out.there' hF5.out rfl) (by exact hCs.out.size) (by exact hCs.out.one) ?_
              generalize hW6 : World.setCells _ _ _ _ = W6
              obtain ⟨hF6, hb6⟩ := hCs.out.set hF5.out rfl hW6 hb5'.out (by omega)
              have hF6' := hid hF6
              have hG6 := hid (holds_far hG5'.out hne_g1_g2 hW6)
              have hT6 := hid (hT4.out.below hb6 hT4.out.lt)
              have hH6 := hid (hH4.out.below hb6 hH4.out.lt)
              have hR6 := hid (hR4.out.below hb6 hR4.out.lt)
              have hS6 := hid (hS4.out.below hb6 hS4.out.lt)
              have hB6 := hid (below_up hb6 hB4.out)
              clear hW6 hF6 hb6 hb5' hF5 hG5' hH5
              refine hK'.out _ _ (by exact hH6.out) (fun hHeld => ?_)
              clear hK' K
              refine wpAnyH_take (i := 18) (v := .bool ok) rfl (by kernel_rfl) (by kernel_rfl) (by kernel_rfl) (fun _ _ _ h => h) (yieldsIf_assign _ rfl rfl rfl) hHeld ?_
              simp only [ly1, ly2, ly3, Act.put, ly5, ly6, ly7]
              refine wpAnyH_done (by kernel_rfl) ?_ _
              clear hHeld
              have hdr : Below W6.heap.size W6 W6.drew := (Below.refl _ _).drew
              have hF7 := hid (hF6'.out.below hdr hF6'.out.lt)
              have hG7 := hid (hG6.out.below hdr hG6.out.lt)
              have hT7 := hid (hT6.out.below hdr hT6.out.lt)
              have hR7 := hid (hR6.out.below hdr hR6.out.lt)
              have hS7 := hid (hS6.out.below hdr hS6.out.lt)
              have hB7 := hid (below_up hdr hB6.out)
              clear hdr hF6' hG6 hT6 hH6 hR6 hS6 hB6
              go_wp2_with fail
              refine wp_region_held_drew (S := fun W => (Holds W g1 28 cr ∧ Holds W g2 28 cs) ∧ Holds W W2.heap.size 28 ct) (by kernel_rfl) (by exact ⟨⟨hG7.out, hF7.out⟩, hT7.out⟩) (fun hHeld => ?_)
              generalize W6.drew = Wc at *
              refine wpAnyH_take (i := 0) (v := .agg cr.toArray) rfl (by kernel_rfl) (by kernel_rfl) (by kernel_rfl) (fun _ _ _ h => h) (yieldsIf_load_mid (by kernel_rfl) _ _ rfl _ _ rfl _ _ (fun W h => h_all h.1.1) Try.underlying28 rfl (by exact hCr.out.size')) hHeld ?_
              simp only [ly1, ly2, ly3, Act.put, ly5, ly6, ly7]
              refine wpAnyH_take (i := 1) (v := .agg cs.toArray) rfl (by kernel_rfl) (by kernel_rfl) (by kernel_rfl) (fun _ _ _ h => h) (yieldsIf_load_mid (by kernel_rfl) _ _ rfl _ _ rfl _ _ (fun W h => h_all h.1.2) Try.underlying28 rfl (by exact hCs.out.size')) hHeld ?_
              simp only [ly1, ly2, ly3, Act.put, ly5, ly6, ly7]
              refine wpAnyH_take (i := 2) (v := .agg ct.toArray) rfl (by kernel_rfl) (by kernel_rfl) (by kernel_rfl) (fun _ _ _ h => h) (yieldsIf_load_mid (by kernel_rfl) _ _ rfl _ _ rfl _ _ (fun W h => h_all h.2) Try.underlying28 rfl (by exact hCt.out.size')) hHeld ?_
              simp only [ly1, ly2, ly3, Act.put, ly5, ly6, ly7]
              refine wpAnyH_take (i := 4) (v := .bool ok) rfl (by kernel_rfl) (by kernel_rfl) (by kernel_rfl) (fun _ _ _ h => h) (yieldsIf_move _ rfl rfl rfl) hHeld ?_
              simp only [ly1, ly2, ly3, Act.put, ly5, ly6, ly7]
              refine wpAnyH_ready (rs := [3]) (by kernel_rfl) (by simp) (AllReadyH.cons rfl (fun K hK => ?_) AllReadyH.nil)
              have hK' := hid hK
              clear hK
              rw [if_pos (by kernel_rfl)]
              simp only [ly1, ly2, ly3]
              go_simp
              refine (hro2.out _).mono ?_
              rintro e WY ⟨rfl, hb8⟩
              have hFY := hid (hF7.out.below hb8 hF7.out.lt)
              have hGY := hid (hG7.out.below hb8 hG7.out.lt)
              have hTY := hid (hT7.out.below hb8 hT7.out.lt)
              have hRY := hid (hR7.out.below hb8 hR7.out.lt)
              have hSY := hid (hS7.out.below hb8 hS7.out.lt)
              have hBY := hid (below_up hb8 hB7.out)
              clear hb8 hF7 hG7 hT7 hR7 hS7 hB7
              refine hK'.out _ _ (by exact ⟨⟨hGY.out, hFY.out⟩, hTY.out⟩) (fun hHeld => ?_)
              clear hK' K
              refine wpAnyH_ready (rs := [5]) (by kernel_rfl) (by simp) (AllReadyH.cons rfl (fun K hK => ?_) AllReadyH.nil)
              have hK' := hid hK
              clear hK
              rw [if_pos (by kernel_rfl)]
              simp only [ly1, ly2, ly3]
              refine wp_store_mid _ _ _ rfl (w.heap.size + 1) 0 cr.toArray rfl rfl (by exact hCr.out.there' hRY.out rfl) (by exact hCr.out.size) (by exact hCr.out.one) ?_
              generalize hX1 : World.setCells _ _ _ _ = X1
              obtain ⟨hRx, hbx⟩ := hCr.out.set hRY.out rfl hX1 hBY.out (by omega)
              have hRx1 := hid hRx
              have hbx1 := hid hbx
              have hSx1 := hid (holds_far hSY.out (by omega) hX1)
              have hFx1 := hid (holds_far hFY.out (by omega) hX1)
              have hGx1 := hid (holds_far hGY.out (by omega) hX1)
              have hTx1 := hid (holds_far hTY.out (by omega) hX1)
              clear hX1 hRx hbx
              refine hK'.out _ _ (by exact ⟨⟨hGx1.out, hFx1.out⟩, hTx1.out⟩) (fun hHeld => ?_)
              clear hK' K
              refine wpAnyH_ready (rs := [6]) (by kernel_rfl) (by simp) (AllReadyH.cons rfl (fun K hK => ?_) AllReadyH.nil)
              have hK' := hid hK
              clear hK
              rw [if_pos (by kernel_rfl)]
              simp only [ly1, ly2, ly3]
              refine wp_store_mid _ _ _ rfl (w.heap.size + 2) 0 cn2.toArray rfl rfl (by exact hCn2.out.there' hSx1.out rfl) (by exact hCn2.out.size) (by exact hCn2.out.one) ?_
              generalize hX2 : World.setCells _ _ _ _ = X2
              obtain ⟨hSx, hbx⟩ := hCn2.out.set hSx1.out rfl hX2 hbx1.out (by omega)
              have hSx2 := hid hSx
              have hbx2 := hid hbx
              have hRx2 := hid (holds_far hRx1.out (by omega) hX2)
              have hFx2 := hid (holds_far hFx1.out (by omega) hX2)
              have hGx2 := hid (holds_far hGx1.out (by omega) hX2)
              have hTx2 := hid (holds_far hTx1.out (by omega) hX2)
              clear hX2 hSx hbx
              refine hK'.out _ _ (by exact ⟨⟨hGx2.out, hFx2.out⟩, hTx2.out⟩) (fun hHeld => ?_)
              clear hK' K
              refine wpAnyH_take (i := 7) (v := .bool ok) rfl (by kernel_rfl) (by kernel_rfl) (by kernel_rfl) (fun _ _ _ h => h) (yieldsIf_assign _ rfl rfl rfl) hHeld ?_
              simp only [ly1, ly2, ly3, Act.put, ly5, ly6, ly7]
              refine wpAnyH_done (by kernel_rfl) ?_ _
              clear hHeld
              go_wp2_with fail
              exact bodyPost_ret (results_cct rfl _ _ (w.heap.size + 1) (w.heap.size + 2) 28 _ _ _ rfl rfl hRx2.out hSx2.out (.bool ok) rfl Try.underlying28 rfl (by exact hCr.out.size) (by exact hCn2.out.size)) rfl ⟨rfl, hbx2.out⟩

            · skip
              have hK' := hid hK
              clear hK
              rw [if_pos (by kernel_rfl)]
              simp only [ly1, ly2, ly3]
              obtain ⟨g2, hqg2⟩ : ∃ g, g = W_g1_1.heap.size := ⟨_, rfl⟩
              refine wp_run (.pointer (some ⟨g2, 0, none⟩)) (W_g1_1.alloc (.cells z32 28)) (by rw [hqg2]; kernel_rfl) ?_
              have hb_2 := hid (hb_1.out.alloc hb_1.out.size (.cells z32 28))
              have hN2_g2 := hid (show Holds (W_g1_1.alloc (.cells z32 28)) g2 28 (z32).toList from by rw [hqg2]; exact Holds.new W_g1_1 _ _)
              have hgeg2 : Wb.heap.size ≤ g2 := by rw [hqg2]; exact hb_1.out.size
              have hN2_g1 := hid (hN1_g1.out.alloc (.cells z32 28))
              have hne_g1_g2 : g1 ≠ g2 := by have := hN1_g1.out.lt; omega
              generalize hWg2 : W_g1_1.alloc (.cells z32 28) = W_g2_2 at *
              clear hWg2 hqg2 hb_1 hN1_g1
              refine hK'.out _ _ (by exact (hH4.out.below hb_2.out hH4.out.lt)) (fun hHeld => ?_)
              clear hK' K
              refine wpAnyH_ready (rs := [9]) (by kernel_rfl) (by simp) (AllReadyH.cons rfl (fun K hK => ?_) AllReadyH.nil)
              have hK' := hid hK
              clear hK
              rw [if_pos (by kernel_rfl)]
              simp only [ly1, ly2, ly3]
              go_simp
              refine (hrec.out _ (below_up (hb_2.out) hB4.out)).mono ?_
              rintro e W_call_3 ⟨rfl, hbc⟩
              have hb_3 := hid (hb_2.out.trans (hbc.mono hb_2.out.size))
              have hN3_g1 := hid (hN2_g1.out.below hbc hN2_g1.out.lt)
              have hN3_g2 := hid (hN2_g2.out.below hbc hN2_g2.out.lt)
              clear hbc hb_2 hN2_g1 hN2_g2
              refine hK'.out _ _ (by exact (hH4.out.below hb_3.out hH4.out.lt)) (fun hHeld => ?_)
              clear hK' K
              refine wpAnyH_take (i := 10) (v := .tuple #[.agg cr.toArray, .agg cs.toArray, .bool ok]) rfl (by kernel_rfl) (by kernel_rfl) (by kernel_rfl) (fun _ _ _ h => h) (yieldsIf_move _ rfl rfl rfl) hHeld ?_
              simp only [ly1, ly2, ly3, Act.put, ly5, ly6, ly7]
              refine wpAnyH_take (i := 11) (v := .agg cr.toArray) rfl (by kernel_rfl) (by kernel_rfl) (by kernel_rfl) (fun _ _ _ h => h) (.inl ⟨by kernel_rfl, fun w _ => by go_simp⟩) hHeld ?_
              simp only [ly1, ly2, ly3, Act.put, ly5, ly6, ly7]
              refine wpAnyH_take (i := 12) (v := .agg cs.toArray) rfl (by kernel_rfl) (by kernel_rfl) (by kernel_rfl) (fun _ _ _ h => h) (.inl ⟨by kernel_rfl, fun w _ => by go_simp⟩) hHeld ?_
              simp only [ly1, ly2, ly3, Act.put, ly5, ly6, ly7]
              refine wpAnyH_take (i := 13) (v := .bool ok) rfl (by kernel_rfl) (by kernel_rfl) (by kernel_rfl) (fun _ _ _ h => h) (.inl ⟨by kernel_rfl, fun w _ => by go_simp⟩) hHeld ?_
              simp only [ly1, ly2, ly3, Act.put, ly5, ly6, ly7]
              refine wpAnyH_ready (rs := [16]) (by kernel_rfl) (by simp) (AllReadyH.cons rfl (fun K hK => ?_) AllReadyH.nil)
              have hK' := hid hK
              clear hK
              rw [if_pos (by kernel_rfl)]
              simp only [ly1, ly2, ly3]
              refine wp_store_mid _ _ _ rfl g1 0 cr.toArray rfl rfl (by exact hCr.out.there' hN3_g1.out rfl) (by exact hCr.out.size) (by exact hCr.out.one) ?_
              generalize hW5 : World.setCells _ _ _ _ = W5
              obtain ⟨hG5, hb5⟩ := hCr.out.set hN3_g1.out rfl hW5 hb_3.out (by omega)
              have hG5' := hid hG5
              have hF5 := hid (holds_far hN3_g2.out (Ne.symm hne_g1_g2) hW5)
              have hb5' := hid hb5
              have hH5 := hid (hH4.out.below hb5 hH4.out.lt)
              clear hW5 hG5 hb5 hb_3 hN3_g1 hN3_g2
              refine hK'.out _ _ (by exact hH5.out) (fun hHeld => ?_)
              clear hK' K
              refine wpAnyH_ready (rs := [17]) (by kernel_rfl) (by simp) (AllReadyH.cons rfl (fun K hK => ?_) AllReadyH.nil)
              have hK' := hid hK
              clear hK
              rw [if_pos (by kernel_rfl)]
              simp only [ly1, ly2, ly3]
              refine wp_store_mid _ _ _ rfl g2 0 cs.toArray rfl rfl (by exact hCs.out.there' hF5.out rfl) (by exact hCs.out.size) (by exact hCs.out.one) ?_
              generalize hW6 : World.setCells _ _ _ _ = W6
              obtain ⟨hF6, hb6⟩ := hCs.out.set hF5.out rfl hW6 hb5'.out (by omega)
              have hF6' := hid hF6
              have hG6 := hid (holds_far hG5'.out hne_g1_g2 hW6)
              have hT6 := hid (hT4.out.below hb6 hT4.out.lt)
              have hH6 := hid (hH4.out.below hb6 hH4.out.lt)
              have hR6 := hid (hR4.out.below hb6 hR4.out.lt)
              have hS6 := hid (hS4.out.below hb6 hS4.out.lt)
              have hB6 := hid (below_up hb6 hB4.out)
              clear hW6 hF6 hb6 hb5' hF5 hG5' hH5
              refine hK'.out _ _ (by exact hH6.out) (fun hHeld => ?_)
              clear hK' K
              refine wpAnyH_take (i := 18) (v := .bool ok) rfl (by kernel_rfl) (by kernel_rfl) (by kernel_rfl) (fun _ _ _ h => h) (yieldsIf_assign _ rfl rfl rfl) hHeld ?_
              simp only [ly1, ly2, ly3, Act.put, ly5, ly6, ly7]
              refine wpAnyH_done (by kernel_rfl) ?_ _
              clear hHeld
              have hdr : Below W6.heap.size W6 W6.drew := (Below.refl _ _).drew
              have hF7 := hid (hF6'.out.below hdr hF6'.out.lt)
              have hG7 := hid (hG6.out.below hdr hG6.out.lt)
              have hT7 := hid (hT6.out.below hdr hT6.out.lt)
              have hR7 := hid (hR6.out.below hdr hR6.out.lt)
              have hS7 := hid (hS6.out.below hdr hS6.out.lt)
              have hB7 := hid (below_up hdr hB6.out)
              clear hdr hF6' hG6 hT6 hH6 hR6 hS6 hB6
              go_wp2_with fail
              refine wp_region_held_drew (S := fun W => (Holds W g1 28 cr ∧ Holds W g2 28 cs) ∧ Holds W W2.heap.size 28 ct) (by kernel_rfl) (by exact ⟨⟨hG7.out, hF7.out⟩, hT7.out⟩) (fun hHeld => ?_)
              generalize W6.drew = Wc at *
              refine wpAnyH_take (i := 0) (v := .agg cr.toArray) rfl (by kernel_rfl) (by kernel_rfl) (by kernel_rfl) (fun _ _ _ h => h) (yieldsIf_load_mid (by kernel_rfl) _ _ rfl _ _ rfl _ _ (fun W h => h_all h.1.1) Try.underlying28 rfl (by exact hCr.out.size')) hHeld ?_
              simp only [ly1, ly2, ly3, Act.put, ly5, ly6, ly7]
              refine wpAnyH_take (i := 1) (v := .agg cs.toArray) rfl (by kernel_rfl) (by kernel_rfl) (by kernel_rfl) (fun _ _ _ h => h) (yieldsIf_load_mid (by kernel_rfl) _ _ rfl _ _ rfl _ _ (fun W h => h_all h.1.2) Try.underlying28 rfl (by exact hCs.out.size')) hHeld ?_
              simp only [ly1, ly2, ly3, Act.put, ly5, ly6, ly7]
              refine wpAnyH_take (i := 2) (v := .agg ct.toArray) rfl (by kernel_rfl) (by kernel_rfl) (by kernel_rfl) (fun _ _ _ h => h) (yieldsIf_load_mid (by kernel_rfl) _ _ rfl _ _ rfl _ _ (fun W h => h_all h.2) Try.underlying28 rfl (by exact hCt.out.size')) hHeld ?_
              simp only [ly1, ly2, ly3, Act.put, ly5, ly6, ly7]
              refine wpAnyH_take (i := 4) (v := .bool ok) rfl (by kernel_rfl) (by kernel_rfl) (by kernel_rfl) (fun _ _ _ h => h) (yieldsIf_move _ rfl rfl rfl) hHeld ?_
              simp only [ly1, ly2, ly3, Act.put, ly5, ly6, ly7]
              refine wpAnyH_ready (rs := [3]) (by kernel_rfl) (by simp) (AllReadyH.cons rfl (fun K hK => ?_) AllReadyH.nil)
              have hK' := hid hK
              clear hK
              rw [if_pos (by kernel_rfl)]
              simp only [ly1, ly2, ly3]
              go_simp
              refine (hro2.out _).mono ?_
              rintro e WY ⟨rfl, hb8⟩
              have hFY := hid (hF7.out.below hb8 hF7.out.lt)
              have hGY := hid (hG7.out.below hb8 hG7.out.lt)
              have hTY := hid (hT7.out.below hb8 hT7.out.lt)
              have hRY := hid (hR7.out.below hb8 hR7.out.lt)
              have hSY := hid (hS7.out.below hb8 hS7.out.lt)
              have hBY := hid (below_up hb8 hB7.out)
              clear hb8 hF7 hG7 hT7 hR7 hS7 hB7
              refine hK'.out _ _ (by exact ⟨⟨hGY.out, hFY.out⟩, hTY.out⟩) (fun hHeld => ?_)
              clear hK' K
              refine wpAnyH_ready (rs := [5]) (by kernel_rfl) (by simp) (AllReadyH.cons rfl (fun K hK => ?_) AllReadyH.nil)
              have hK' := hid hK
              clear hK
              rw [if_pos (by kernel_rfl)]
              simp only [ly1, ly2, ly3]
              refine wp_store_mid _ _ _ rfl (w.heap.size + 1) 0 cr.toArray rfl rfl (by exact hCr.out.there' hRY.out rfl) (by exact hCr.out.size) (by exact hCr.out.one) ?_
              generalize hX1 : World.setCells _ _ _ _ = X1
              obtain ⟨hRx, hbx⟩ := hCr.out.set hRY.out rfl hX1 hBY.out (by omega)
              have hRx1 := hid hRx
              have hbx1 := hid hbx
              have hSx1 := hid (holds_far hSY.out (by omega) hX1)
              have hFx1 := hid (holds_far hFY.out (by omega) hX1)
              have hGx1 := hid (holds_far hGY.out (by omega) hX1)
              have hTx1 := hid (holds_far hTY.out (by omega) hX1)
              clear hX1 hRx hbx
              refine hK'.out _ _ (by exact ⟨⟨hGx1.out, hFx1.out⟩, hTx1.out⟩) (fun hHeld => ?_)
              clear hK' K
              refine wpAnyH_ready (rs := [6]) (by kernel_rfl) (by simp) (AllReadyH.cons rfl (fun K hK => ?_) AllReadyH.nil)
              have hK' := hid hK
              clear hK
              rw [if_pos (by kernel_rfl)]
              simp only [ly1, ly2, ly3]
              refine wp_store_mid _ _ _ rfl (w.heap.size + 2) 0 cn2.toArray rfl rfl (by exact hCn2.out.there' hSx1.out rfl) (by exact hCn2.out.size) (by exact hCn2.out.one) ?_
              generalize hX2 : World.setCells _ _ _ _ = X2
              obtain ⟨hSx, hbx⟩ := hCn2.out.set hSx1.out rfl hX2 hbx1.out (by omega)
              have hSx2 := hid hSx
              have hbx2 := hid hbx
              have hRx2 := hid (holds_far hRx1.out (by omega) hX2)
              have hFx2 := hid (holds_far hFx1.out (by omega) hX2)
              have hGx2 := hid (holds_far hGx1.out (by omega) hX2)
              have hTx2 := hid (holds_far hTx1.out (by omega) hX2)
              clear hX2 hSx hbx
              refine hK'.out _ _ (by exact ⟨⟨hGx2.out, hFx2.out⟩, hTx2.out⟩) (fun hHeld => ?_)
              clear hK' K
              refine wpAnyH_take (i := 7) (v := .bool ok) rfl (by kernel_rfl) (by kernel_rfl) (by kernel_rfl) (fun _ _ _ h => h) (yieldsIf_assign _ rfl rfl rfl) hHeld ?_
              simp only [ly1, ly2, ly3, Act.put, ly5, ly6, ly7]
              refine wpAnyH_done (by kernel_rfl) ?_ _
              clear hHeld
              go_wp2_with fail
              exact bodyPost_ret (results_cct rfl _ _ (w.heap.size + 1) (w.heap.size + 2) 28 _ _ _ rfl rfl hRx2.out hSx2.out (.bool ok) rfl Try.underlying28 rfl (by exact hCr.out.size) (by exact hCn2.out.size)) rfl ⟨rfl, hbx2.out⟩

          · skip
            have hK' := hid hK
            clear hK
            rw [if_pos (by kernel_rfl)]
            simp only [ly1, ly2, ly3]
            obtain ⟨g2, hqg2⟩ : ∃ g, g = Wb.heap.size := ⟨_, rfl⟩
            refine wp_run (.pointer (some ⟨g2, 0, none⟩)) (Wb.alloc (.cells z32 28)) (by rw [hqg2]; kernel_rfl) ?_
            have hb_1 := hid (hb_0.out.alloc hb_0.out.size (.cells z32 28))
            have hN1_g2 := hid (show Holds (Wb.alloc (.cells z32 28)) g2 28 (z32).toList from by rw [hqg2]; exact Holds.new Wb _ _)
            have hgeg2 : Wb.heap.size ≤ g2 := by rw [hqg2]; exact hb_0.out.size
            generalize hWg2 : Wb.alloc (.cells z32 28) = W_g2_1 at *
            clear hWg2 hqg2 hb_0
            refine hK'.out _ _ (by exact (hH4.out.below hb_1.out hH4.out.lt)) (fun hHeld => ?_)
            clear hK' K
            refine wpAnyH_ready (rs := [9, 14]) (by kernel_rfl) (by simp) (AllReadyH.cons rfl (fun K hK => ?_) (AllReadyH.cons rfl (fun K hK => ?_) AllReadyH.nil))
            · skip
              have hK' := hid hK
              clear hK
              rw [if_pos (by kernel_rfl)]
              simp only [ly1, ly2, ly3]
              go_simp
              refine (hrec.out _ (below_up (hb_1.out) hB4.out)).mono ?_
              rintro e W_call_2 ⟨rfl, hbc⟩
              have hb_2 := hid (hb_1.out.trans (hbc.mono hb_1.out.size))
              have hN2_g2 := hid (hN1_g2.out.below hbc hN1_g2.out.lt)
              clear hbc hb_1 hN1_g2
              refine hK'.out _ _ (by exact (hH4.out.below hb_2.out hH4.out.lt)) (fun hHeld => ?_)
              clear hK' K
              refine wpAnyH_take (i := 10) (v := .tuple #[.agg cr.toArray, .agg cs.toArray, .bool ok]) rfl (by kernel_rfl) (by kernel_rfl) (by kernel_rfl) (fun _ _ _ h => h) (yieldsIf_move _ rfl rfl rfl) hHeld ?_
              simp only [ly1, ly2, ly3, Act.put, ly5, ly6, ly7]
              refine wpAnyH_take (i := 11) (v := .agg cr.toArray) rfl (by kernel_rfl) (by kernel_rfl) (by kernel_rfl) (fun _ _ _ h => h) (.inl ⟨by kernel_rfl, fun w _ => by go_simp⟩) hHeld ?_
              simp only [ly1, ly2, ly3, Act.put, ly5, ly6, ly7]
              refine wpAnyH_take (i := 12) (v := .agg cs.toArray) rfl (by kernel_rfl) (by kernel_rfl) (by kernel_rfl) (fun _ _ _ h => h) (.inl ⟨by kernel_rfl, fun w _ => by go_simp⟩) hHeld ?_
              simp only [ly1, ly2, ly3, Act.put, ly5, ly6, ly7]
              refine wpAnyH_take (i := 13) (v := .bool ok) rfl (by kernel_rfl) (by kernel_rfl) (by kernel_rfl) (fun _ _ _ h => h) (.inl ⟨by kernel_rfl, fun w _ => by go_simp⟩) hHeld ?_
              simp only [ly1, ly2, ly3, Act.put, ly5, ly6, ly7]
              refine wpAnyH_ready (rs := [14]) (by kernel_rfl) (by simp) (AllReadyH.cons rfl (fun K hK => ?_) AllReadyH.nil)
              have hK' := hid hK
              clear hK
              rw [if_pos (by kernel_rfl)]
              simp only [ly1, ly2, ly3]
              obtain ⟨g1, hqg1⟩ : ∃ g, g = W_call_2.heap.size := ⟨_, rfl⟩
              refine wp_run (.pointer (some ⟨g1, 0, none⟩)) (W_call_2.alloc (.cells z32 28)) (by rw [hqg1]; kernel_rfl) ?_
              have hb_3 := hid (hb_2.out.alloc hb_2.out.size (.cells z32 28))
              have hN3_g1 := hid (show Holds (W_call_2.alloc (.cells z32 28)) g1 28 (z32).toList from by rw [hqg1]; exact Holds.new W_call_2 _ _)
              have hgeg1 : Wb.heap.size ≤ g1 := by rw [hqg1]; exact hb_2.out.size
              have hN3_g2 := hid (hN2_g2.out.alloc (.cells z32 28))
              have hne_g1_g2 : g1 ≠ g2 := by have := hN2_g2.out.lt; omega
              generalize hWg1 : W_call_2.alloc (.cells z32 28) = W_g1_3 at *
              clear hWg1 hqg1 hb_2 hN2_g2
              refine hK'.out _ _ (by exact (hH4.out.below hb_3.out hH4.out.lt)) (fun hHeld => ?_)
              clear hK' K
              refine wpAnyH_ready (rs := [16]) (by kernel_rfl) (by simp) (AllReadyH.cons rfl (fun K hK => ?_) AllReadyH.nil)
              have hK' := hid hK
              clear hK
              rw [if_pos (by kernel_rfl)]
              simp only [ly1, ly2, ly3]
              refine wp_store_mid _ _ _ rfl g1 0 cr.toArray rfl rfl (by exact hCr.out.there' hN3_g1.out rfl) (by exact hCr.out.size) (by exact hCr.out.one) ?_
              generalize hW5 : World.setCells _ _ _ _ = W5
              obtain ⟨hG5, hb5⟩ := hCr.out.set hN3_g1.out rfl hW5 hb_3.out (by omega)
              have hG5' := hid hG5
              have hF5 := hid (holds_far hN3_g2.out (Ne.symm hne_g1_g2) hW5)
              have hb5' := hid hb5
              have hH5 := hid (hH4.out.below hb5 hH4.out.lt)
              clear hW5 hG5 hb5 hb_3 hN3_g1 hN3_g2
              refine hK'.out _ _ (by exact hH5.out) (fun hHeld => ?_)
              clear hK' K
              refine wpAnyH_ready (rs := [17]) (by kernel_rfl) (by simp) (AllReadyH.cons rfl (fun K hK => ?_) AllReadyH.nil)
              have hK' := hid hK
              clear hK
              rw [if_pos (by kernel_rfl)]
              simp only [ly1, ly2, ly3]
              refine wp_store_mid _ _ _ rfl g2 0 cs.toArray rfl rfl (by exact hCs.out.there' hF5.out rfl) (by exact hCs.out.size) (by exact hCs.out.one) ?_
              generalize hW6 : World.setCells _ _ _ _ = W6
              obtain ⟨hF6, hb6⟩ := hCs.out.set hF5.out rfl hW6 hb5'.out (by omega)
              have hF6' := hid hF6
              have hG6 := hid (holds_far hG5'.out hne_g1_g2 hW6)
              have hT6 := hid (hT4.out.below hb6 hT4.out.lt)
              have hH6 := hid (hH4.out.below hb6 hH4.out.lt)
              have hR6 := hid (hR4.out.below hb6 hR4.out.lt)
              have hS6 := hid (hS4.out.below hb6 hS4.out.lt)
              have hB6 := hid (below_up hb6 hB4.out)
              clear hW6 hF6 hb6 hb5' hF5 hG5' hH5
              refine hK'.out _ _ (by exact hH6.out) (fun hHeld => ?_)
              clear hK' K
              refine wpAnyH_take (i := 18) (v := .bool ok) rfl (by kernel_rfl) (by kernel_rfl) (by kernel_rfl) (fun _ _ _ h => h) (yieldsIf_assign _ rfl rfl rfl) hHeld ?_
              simp only [ly1, ly2, ly3, Act.put, ly5, ly6, ly7]
              refine wpAnyH_done (by kernel_rfl) ?_ _
              clear hHeld
              have hdr : Below W6.heap.size W6 W6.drew := (Below.refl _ _).drew
              have hF7 := hid (hF6'.out.below hdr hF6'.out.lt)
              have hG7 := hid (hG6.out.below hdr hG6.out.lt)
              have hT7 := hid (hT6.out.below hdr hT6.out.lt)
              have hR7 := hid (hR6.out.below hdr hR6.out.lt)
              have hS7 := hid (hS6.out.below hdr hS6.out.lt)
              have hB7 := hid (below_up hdr hB6.out)
              clear hdr hF6' hG6 hT6 hH6 hR6 hS6 hB6
              go_wp2_with fail
              refine wp_region_held_drew (S := fun W => (Holds W g1 28 cr ∧ Holds W g2 28 cs) ∧ Holds W W2.heap.size 28 ct) (by kernel_rfl) (by exact ⟨⟨hG7.out, hF7.out⟩, hT7.out⟩) (fun hHeld => ?_)
              generalize W6.drew = Wc at *
              refine wpAnyH_take (i := 0) (v := .agg cr.toArray) rfl (by kernel_rfl) (by kernel_rfl) (by kernel_rfl) (fun _ _ _ h => h) (yieldsIf_load_mid (by kernel_rfl) _ _ rfl _ _ rfl _ _ (fun W h => h_all h.1.1) Try.underlying28 rfl (by exact hCr.out.size')) hHeld ?_
              simp only [ly1, ly2, ly3, Act.put, ly5, ly6, ly7]
              refine wpAnyH_take (i := 1) (v := .agg cs.toArray) rfl (by kernel_rfl) (by kernel_rfl) (by kernel_rfl) (fun _ _ _ h => h) (yieldsIf_load_mid (by kernel_rfl) _ _ rfl _ _ rfl _ _ (fun W h => h_all h.1.2) Try.underlying28 rfl (by exact hCs.out.size')) hHeld ?_
              simp only [ly1, ly2, ly3, Act.put, ly5, ly6, ly7]
              refine wpAnyH_take (i := 2) (v := .agg ct.toArray) rfl (by kernel_rfl) (by kernel_rfl) (by kernel_rfl) (fun _ _ _ h => h) (yieldsIf_load_mid (by kernel_rfl) _ _ rfl _ _ rfl _ _ (fun W h => h_all h.2) Try.underlying28 rfl (by exact hCt.out.size')) hHeld ?_
              simp only [ly1, ly2, ly3, Act.put, ly5, ly6, ly7]
              refine wpAnyH_take (i := 4) (v := .bool ok) rfl (by kernel_rfl) (by kernel_rfl) (by kernel_rfl) (fun _ _ _ h => h) (yieldsIf_move _ rfl rfl rfl) hHeld ?_
              simp only [ly1, ly2, ly3, Act.put, ly5, ly6, ly7]
              refine wpAnyH_ready (rs := [3]) (by kernel_rfl) (by simp) (AllReadyH.cons rfl (fun K hK => ?_) AllReadyH.nil)
              have hK' := hid hK
              clear hK
              rw [if_pos (by kernel_rfl)]
              simp only [ly1, ly2, ly3]
              go_simp
              refine (hro2.out _).mono ?_
              rintro e WY ⟨rfl, hb8⟩
              have hFY := hid (hF7.out.below hb8 hF7.out.lt)
              have hGY := hid (hG7.out.below hb8 hG7.out.lt)
              have hTY := hid (hT7.out.below hb8 hT7.out.lt)
              have hRY := hid (hR7.out.below hb8 hR7.out.lt)
              have hSY := hid (hS7.out.below hb8 hS7.out.lt)
              have hBY := hid (below_up hb8 hB7.out)
              clear hb8 hF7 hG7 hT7 hR7 hS7 hB7
              refine hK'.out _ _ (by exact ⟨⟨hGY.out, hFY.out⟩, hTY.out⟩) (fun hHeld => ?_)
              clear hK' K
              refine wpAnyH_ready (rs := [5]) (by kernel_rfl) (by simp) (AllReadyH.cons rfl (fun K hK => ?_) AllReadyH.nil)
              have hK' := hid hK
              clear hK
              rw [if_pos (by kernel_rfl)]
              simp only [ly1, ly2, ly3]
              refine wp_store_mid _ _ _ rfl (w.heap.size + 1) 0 cr.toArray rfl rfl (by exact hCr.out.there' hRY.out rfl) (by exact hCr.out.size) (by exact hCr.out.one) ?_
              generalize hX1 : World.setCells _ _ _ _ = X1
              obtain ⟨hRx, hbx⟩ := hCr.out.set hRY.out rfl hX1 hBY.out (by omega)
              have hRx1 := hid hRx
              have hbx1 := hid hbx
              have hSx1 := hid (holds_far hSY.out (by omega) hX1)
              have hFx1 := hid (holds_far hFY.out (by omega) hX1)
              have hGx1 := hid (holds_far hGY.out (by omega) hX1)
              have hTx1 := hid (holds_far hTY.out (by omega) hX1)
              clear hX1 hRx hbx
              refine hK'.out _ _ (by exact ⟨⟨hGx1.out, hFx1.out⟩, hTx1.out⟩) (fun hHeld => ?_)
              clear hK' K
              refine wpAnyH_ready (rs := [6]) (by kernel_rfl) (by simp) (AllReadyH.cons rfl (fun K hK => ?_) AllReadyH.nil)
              have hK' := hid hK
              clear hK
              rw [if_pos (by kernel_rfl)]
              simp only [ly1, ly2, ly3]
              refine wp_store_mid _ _ _ rfl (w.heap.size + 2) 0 cn2.toArray rfl rfl (by exact hCn2.out.there' hSx1.out rfl) (by exact hCn2.out.size) (by exact hCn2.out.one) ?_
              generalize hX2 : World.setCells _ _ _ _ = X2
              obtain ⟨hSx, hbx⟩ := hCn2.out.set hSx1.out rfl hX2 hbx1.out (by omega)
              have hSx2 := hid hSx
              have hbx2 := hid hbx
              have hRx2 := hid (holds_far hRx1.out (by omega) hX2)
              have hFx2 := hid (holds_far hFx1.out (by omega) hX2)
              have hGx2 := hid (holds_far hGx1.out (by omega) hX2)
              have hTx2 := hid (holds_far hTx1.out (by omega) hX2)
              clear hX2 hSx hbx
              refine hK'.out _ _ (by exact ⟨⟨hGx2.out, hFx2.out⟩, hTx2.out⟩) (fun hHeld => ?_)
              clear hK' K
              refine wpAnyH_take (i := 7) (v := .bool ok) rfl (by kernel_rfl) (by kernel_rfl) (by kernel_rfl) (fun _ _ _ h => h) (yieldsIf_assign _ rfl rfl rfl) hHeld ?_
              simp only [ly1, ly2, ly3, Act.put, ly5, ly6, ly7]
              refine wpAnyH_done (by kernel_rfl) ?_ _
              clear hHeld
              go_wp2_with fail
              exact bodyPost_ret (results_cct rfl _ _ (w.heap.size + 1) (w.heap.size + 2) 28 _ _ _ rfl rfl hRx2.out hSx2.out (.bool ok) rfl Try.underlying28 rfl (by exact hCr.out.size) (by exact hCn2.out.size)) rfl ⟨rfl, hbx2.out⟩

            · skip
              have hK' := hid hK
              clear hK
              rw [if_pos (by kernel_rfl)]
              simp only [ly1, ly2, ly3]
              obtain ⟨g1, hqg1⟩ : ∃ g, g = W_g2_1.heap.size := ⟨_, rfl⟩
              refine wp_run (.pointer (some ⟨g1, 0, none⟩)) (W_g2_1.alloc (.cells z32 28)) (by rw [hqg1]; kernel_rfl) ?_
              have hb_2 := hid (hb_1.out.alloc hb_1.out.size (.cells z32 28))
              have hN2_g1 := hid (show Holds (W_g2_1.alloc (.cells z32 28)) g1 28 (z32).toList from by rw [hqg1]; exact Holds.new W_g2_1 _ _)
              have hgeg1 : Wb.heap.size ≤ g1 := by rw [hqg1]; exact hb_1.out.size
              have hN2_g2 := hid (hN1_g2.out.alloc (.cells z32 28))
              have hne_g1_g2 : g1 ≠ g2 := by have := hN1_g2.out.lt; omega
              generalize hWg1 : W_g2_1.alloc (.cells z32 28) = W_g1_2 at *
              clear hWg1 hqg1 hb_1 hN1_g2
              refine hK'.out _ _ (by exact (hH4.out.below hb_2.out hH4.out.lt)) (fun hHeld => ?_)
              clear hK' K
              refine wpAnyH_ready (rs := [9]) (by kernel_rfl) (by simp) (AllReadyH.cons rfl (fun K hK => ?_) AllReadyH.nil)
              have hK' := hid hK
              clear hK
              rw [if_pos (by kernel_rfl)]
              simp only [ly1, ly2, ly3]
              go_simp
              refine (hrec.out _ (below_up (hb_2.out) hB4.out)).mono ?_
              rintro e W_call_3 ⟨rfl, hbc⟩
              have hb_3 := hid (hb_2.out.trans (hbc.mono hb_2.out.size))
              have hN3_g2 := hid (hN2_g2.out.below hbc hN2_g2.out.lt)
              have hN3_g1 := hid (hN2_g1.out.below hbc hN2_g1.out.lt)
              clear hbc hb_2 hN2_g2 hN2_g1
              refine hK'.out _ _ (by exact (hH4.out.below hb_3.out hH4.out.lt)) (fun hHeld => ?_)
              clear hK' K
              refine wpAnyH_take (i := 10) (v := .tuple #[.agg cr.toArray, .agg cs.toArray, .bool ok]) rfl (by kernel_rfl) (by kernel_rfl) (by kernel_rfl) (fun _ _ _ h => h) (yieldsIf_move _ rfl rfl rfl) hHeld ?_
              simp only [ly1, ly2, ly3, Act.put, ly5, ly6, ly7]
              refine wpAnyH_take (i := 11) (v := .agg cr.toArray) rfl (by kernel_rfl) (by kernel_rfl) (by kernel_rfl) (fun _ _ _ h => h) (.inl ⟨by kernel_rfl, fun w _ => by go_simp⟩) hHeld ?_
              simp only [ly1, ly2, ly3, Act.put, ly5, ly6, ly7]
              refine wpAnyH_take (i := 12) (v := .agg cs.toArray) rfl (by kernel_rfl) (by kernel_rfl) (by kernel_rfl) (fun _ _ _ h => h) (.inl ⟨by kernel_rfl, fun w _ => by go_simp⟩) hHeld ?_
              simp only [ly1, ly2, ly3, Act.put, ly5, ly6, ly7]
              refine wpAnyH_take (i := 13) (v := .bool ok) rfl (by kernel_rfl) (by kernel_rfl) (by kernel_rfl) (fun _ _ _ h => h) (.inl ⟨by kernel_rfl, fun w _ => by go_simp⟩) hHeld ?_
              simp only [ly1, ly2, ly3, Act.put, ly5, ly6, ly7]
              refine wpAnyH_ready (rs := [16]) (by kernel_rfl) (by simp) (AllReadyH.cons rfl (fun K hK => ?_) AllReadyH.nil)
              have hK' := hid hK
              clear hK
              rw [if_pos (by kernel_rfl)]
              simp only [ly1, ly2, ly3]
              refine wp_store_mid _ _ _ rfl g1 0 cr.toArray rfl rfl (by exact hCr.out.there' hN3_g1.out rfl) (by exact hCr.out.size) (by exact hCr.out.one) ?_
              generalize hW5 : World.setCells _ _ _ _ = W5
              obtain ⟨hG5, hb5⟩ := hCr.out.set hN3_g1.out rfl hW5 hb_3.out (by omega)
              have hG5' := hid hG5
              have hF5 := hid (holds_far hN3_g2.out (Ne.symm hne_g1_g2) hW5)
              have hb5' := hid hb5
              have hH5 := hid (hH4.out.below hb5 hH4.out.lt)
              clear hW5 hG5 hb5 hb_3 hN3_g1 hN3_g2
              refine hK'.out _ _ (by exact hH5.out) (fun hHeld => ?_)
              clear hK' K
              refine wpAnyH_ready (rs := [17]) (by kernel_rfl) (by simp) (AllReadyH.cons rfl (fun K hK => ?_) AllReadyH.nil)
              have hK' := hid hK
              clear hK
              rw [if_pos (by kernel_rfl)]
              simp only [ly1, ly2, ly3]
              refine wp_store_mid _ _ _ rfl g2 0 cs.toArray rfl rfl (by exact hCs.out.there' hF5.out rfl) (by exact hCs.out.size) (by exact hCs.out.one) ?_
              generalize hW6 : World.setCells _ _ _ _ = W6
              obtain ⟨hF6, hb6⟩ := hCs.out.set hF5.out rfl hW6 hb5'.out (by omega)
              have hF6' := hid hF6
              have hG6 := hid (holds_far hG5'.out hne_g1_g2 hW6)
              have hT6 := hid (hT4.out.below hb6 hT4.out.lt)
              have hH6 := hid (hH4.out.below hb6 hH4.out.lt)
              have hR6 := hid (hR4.out.below hb6 hR4.out.lt)
              have hS6 := hid (hS4.out.below hb6 hS4.out.lt)
              have hB6 := hid (below_up hb6 hB4.out)
              clear hW6 hF6 hb6 hb5' hF5 hG5' hH5
              refine hK'.out _ _ (by exact hH6.out) (fun hHeld => ?_)
              clear hK' K
              refine wpAnyH_take (i := 18) (v := .bool ok) rfl (by kernel_rfl) (by kernel_rfl) (by kernel_rfl) (fun _ _ _ h => h) (yieldsIf_assign _ rfl rfl rfl) hHeld ?_
              simp only [ly1, ly2, ly3, Act.put, ly5, ly6, ly7]
              refine wpAnyH_done (by kernel_rfl) ?_ _
              clear hHeld
              have hdr : Below W6.heap.size W6 W6.drew := (Below.refl _ _).drew
              have hF7 := hid (hF6'.out.below hdr hF6'.out.lt)
              have hG7 := hid (hG6.out.below hdr hG6.out.lt)
              have hT7 := hid (hT6.out.below hdr hT6.out.lt)
              have hR7 := hid (hR6.out.below hdr hR6.out.lt)
              have hS7 := hid (hS6.out.below hdr hS6.out.lt)
              have hB7 := hid (below_up hdr hB6.out)
              clear hdr hF6' hG6 hT6 hH6 hR6 hS6 hB6
              go_wp2_with fail
              refine wp_region_held_drew (S := fun W => (Holds W g1 28 cr ∧ Holds W g2 28 cs) ∧ Holds W W2.heap.size 28 ct) (by kernel_rfl) (by exact ⟨⟨hG7.out, hF7.out⟩, hT7.out⟩) (fun hHeld => ?_)
              generalize W6.drew = Wc at *
              refine wpAnyH_take (i := 0) (v := .agg cr.toArray) rfl (by kernel_rfl) (by kernel_rfl) (by kernel_rfl) (fun _ _ _ h => h) (yieldsIf_load_mid (by kernel_rfl) _ _ rfl _ _ rfl _ _ (fun W h => h_all h.1.1) Try.underlying28 rfl (by exact hCr.out.size')) hHeld ?_
              simp only [ly1, ly2, ly3, Act.put, ly5, ly6, ly7]
              refine wpAnyH_take (i := 1) (v := .agg cs.toArray) rfl (by kernel_rfl) (by kernel_rfl) (by kernel_rfl) (fun _ _ _ h => h) (yieldsIf_load_mid (by kernel_rfl) _ _ rfl _ _ rfl _ _ (fun W h => h_all h.1.2) Try.underlying28 rfl (by exact hCs.out.size')) hHeld ?_
              simp only [ly1, ly2, ly3, Act.put, ly5, ly6, ly7]
              refine wpAnyH_take (i := 2) (v := .agg ct.toArray) rfl (by kernel_rfl) (by kernel_rfl) (by kernel_rfl) (fun _ _ _ h => h) (yieldsIf_load_mid (by kernel_rfl) _ _ rfl _ _ rfl _ _ (fun W h => h_all h.2) Try.underlying28 rfl (by exact hCt.out.size')) hHeld ?_
              simp only [ly1, ly2, ly3, Act.put, ly5, ly6, ly7]
              refine wpAnyH_take (i := 4) (v := .bool ok) rfl (by kernel_rfl) (by kernel_rfl) (by kernel_rfl) (fun _ _ _ h => h) (yieldsIf_move _ rfl rfl rfl) hHeld ?_
              simp only [ly1, ly2, ly3, Act.put, ly5, ly6, ly7]
              refine wpAnyH_ready (rs := [3]) (by kernel_rfl) (by simp) (AllReadyH.cons rfl (fun K hK => ?_) AllReadyH.nil)
              have hK' := hid hK
              clear hK
              rw [if_pos (by kernel_rfl)]
              simp only [ly1, ly2, ly3]
              go_simp
              refine (hro2.out _).mono ?_
              rintro e WY ⟨rfl, hb8⟩
              have hFY := hid (hF7.out.below hb8 hF7.out.lt)
              have hGY := hid (hG7.out.below hb8 hG7.out.lt)
              have hTY := hid (hT7.out.below hb8 hT7.out.lt)
              have hRY := hid (hR7.out.below hb8 hR7.out.lt)
              have hSY := hid (hS7.out.below hb8 hS7.out.lt)
              have hBY := hid (below_up hb8 hB7.out)
              clear hb8 hF7 hG7 hT7 hR7 hS7 hB7
              refine hK'.out _ _ (by exact ⟨⟨hGY.out, hFY.out⟩, hTY.out⟩) (fun hHeld => ?_)
              clear hK' K
              refine wpAnyH_ready (rs := [5]) (by kernel_rfl) (by simp) (AllReadyH.cons rfl (fun K hK => ?_) AllReadyH.nil)
              have hK' := hid hK
              clear hK
              rw [if_pos (by kernel_rfl)]
              simp only [ly1, ly2, ly3]
              refine wp_store_mid _ _ _ rfl (w.heap.size + 1) 0 cr.toArray rfl rfl (by exact hCr.out.there' hRY.out rfl) (by exact hCr.out.size) (by exact hCr.out.one) ?_
              generalize hX1 : World.setCells _ _ _ _ = X1
              obtain ⟨hRx, hbx⟩ := hCr.out.set hRY.out rfl hX1 hBY.out (by omega)
              have hRx1 := hid hRx
              have hbx1 := hid hbx
              have hSx1 := hid (holds_far hSY.out (by omega) hX1)
              have hFx1 := hid (holds_far hFY.out (by omega) hX1)
              have hGx1 := hid (holds_far hGY.out (by omega) hX1)
              have hTx1 := hid (holds_far hTY.out (by omega) hX1)
              clear hX1 hRx hbx
              refine hK'.out _ _ (by exact ⟨⟨hGx1.out, hFx1.out⟩, hTx1.out⟩) (fun hHeld => ?_)
              clear hK' K
              refine wpAnyH_ready (rs := [6]) (by kernel_rfl) (by simp) (AllReadyH.cons rfl (fun K hK => ?_) AllReadyH.nil)
              have hK' := hid hK
              clear hK
              rw [if_pos (by kernel_rfl)]
              simp only [ly1, ly2, ly3]
              refine wp_store_mid _ _ _ rfl (w.heap.size + 2) 0 cn2.toArray rfl rfl (by exact hCn2.out.there' hSx1.out rfl) (by exact hCn2.out.size) (by exact hCn2.out.one) ?_
              generalize hX2 : World.setCells _ _ _ _ = X2
              obtain ⟨hSx, hbx⟩ := hCn2.out.set hSx1.out rfl hX2 hbx1.out (by omega)
              have hSx2 := hid hSx
              have hbx2 := hid hbx
              have hRx2 := hid (holds_far hRx1.out (by omega) hX2)
              have hFx2 := hid (holds_far hFx1.out (by omega) hX2)
              have hGx2 := hid (holds_far hGx1.out (by omega) hX2)
              have hTx2 := hid (holds_far hTx1.out (by omega) hX2)
              clear hX2 hSx hbx
              refine hK'.out _ _ (by exact ⟨⟨hGx2.out, hFx2.out⟩, hTx2.out⟩) (fun hHeld => ?_)
              clear hK' K
              refine wpAnyH_take (i := 7) (v := .bool ok) rfl (by kernel_rfl) (by kernel_rfl) (by kernel_rfl) (fun _ _ _ h => h) (yieldsIf_assign _ rfl rfl rfl) hHeld ?_
              simp only [ly1, ly2, ly3, Act.put, ly5, ly6, ly7]
              refine wpAnyH_done (by kernel_rfl) ?_ _
              clear hHeld
              go_wp2_with fail
              exact bodyPost_ret (results_cct rfl _ _ (w.heap.size + 1) (w.heap.size + 2) 28 _ _ _ rfl rfl hRx2.out hSx2.out (.bool ok) rfl Try.underlying28 rfl (by exact hCr.out.size) (by exact hCn2.out.size)) rfl ⟨rfl, hbx2.out⟩
        · have hiki : ¬ (m : Int) ≤ (k : Int) := by omega
          rw [if_neg hik] at hcl
          have s3 := IntWalk.i64_in ((m : Int) - (k : Int)) (by omega)
          have s4 := IntWalk.i64_in ((n : Int) - (k : Int)) (by omega)
          have es : ((m - k : Nat) : Int) = (m : Int) - (k : Int) := by omega
          have es2 : ((n - k : Nat) : Int) = (n : Int) - (k : Int) := by omega
          have hrec := hid (fun W (hW : Below w.heap.size w W) => ih h (m - k) (n - k) false (some p) (q - 1) c (ps.take (q - 1)) B W hh (hPd.out W hW) (Nat.le_trans hBw hW.size) (by omega) (by omega) (by omega) (by omega) (by omega) (by omega))
          have hrl := rise_len f h (m - k) (n - k) false (ps.take (q - 1)) hh hp32
          rw [es, es2] at hrec
          clear es es2
          obtain ⟨R, hR⟩ : ∃ R, Mth.rise nodeH f h (m - k) (n - k) false (ps.take (q - 1)) = R := ⟨_, rfl⟩
          rw [hR] at hrec hcl hrl
          obtain ⟨r, s, ok⟩ := R
          obtain ⟨hrl, hsl⟩ := hrl
          dsimp only at hrl hsl
          have hCr := hid (hash_cells r hrl)
          have hCs := hid (hash_cells s hsl)
          have hro1 := hid (fun W => rOver_any top r ht32 hrl W)
          have hCn1 := hid (hash_node top r)
          have hro2 := hid (fun W => rOver_any top s ht32 hsl W)
          have hCn2 := hid (hash_node top s)
          rw [hcl]
          clear hcl hR hrl hsl hP htc hpB htm htx ht32 hlast hdl hh hl hk hp32 ih
          unfold hv at *
          dsimp only at hrec ⊢
          generalize byteCells (nodeH top s) = cn2 at *
          generalize byteCells (nodeH top r) = cn1 at *
          generalize byteCells r = cr at *
          generalize byteCells s = cs at *
          generalize byteCells top = ct at *
          generalize byteCells h = ch at *
          obtain ⟨W0, hW0⟩ : ∃ W0, ((w.alloc (.cells ch.toArray 28)).alloc (.cells z32 28)).alloc (.cells z32 28) = W0 := ⟨_, rfl⟩
          have e1 : (w.alloc (.cells ch.toArray 28)).heap.size = w.heap.size + 1 := by simp
          have e2 : ((w.alloc (.cells ch.toArray 28)).alloc (.cells z32 28)).heap.size = w.heap.size + 2 := by simp
          have hH : Holds W0 w.heap.size 28 ch := by rw [← hW0]; exact ((Holds.new w 28 ch.toArray).alloc _).alloc _
          have hR : Holds W0 (w.heap.size + 1) 28 z32.toList := by rw [← hW0, ← e1]; exact (Holds.new _ 28 z32).alloc _
          have hT : Holds W0 (w.heap.size + 2) 28 z32.toList := by rw [← hW0, ← e2]; exact Holds.new _ 28 z32
          have hbl : Below w.heap.size w W0 := by rw [← hW0]; exact (((Below.refl _ _).alloc (Nat.le_refl _) _).alloc (by simp) _).alloc (by simp; omega) _
          have hW0' := hid hW0
          have hH0 := hid hH
          have hR0 := hid hR
          have hS0 := hid hT
          have hb0 := hid hbl
          have e1' := hid e1
          have e2' := hid e2
          clear hW0 hH hR hT hbl e1 e2
          go_enter Try.func57, Try.ntmps57
          go_wp2_with (first
            | ((with_reducible refine at_slot (some 10) ?_); refine wpList_run rfl (.pointer (some ⟨(w.alloc (.cells ch.toArray 28)).heap.size, 0, none⟩)) ((w.alloc (.cells ch.toArray 28)).alloc (.cells z32 28)) (by kernel_rfl) ?_)
            | ((with_reducible refine at_slot (some 11) ?_); refine wpList_run rfl (.pointer (some ⟨((w.alloc (.cells ch.toArray 28)).alloc (.cells z32 28)).heap.size, 0, none⟩)) (((w.alloc (.cells ch.toArray 28)).alloc (.cells z32 28)).alloc (.cells z32 28)) (by kernel_rfl) ?_; rw [hW0'.out, e1'.out, e2'.out])
            | fail)
          refine (hcut.out _).mono ?_
          rintro e W2 ⟨rfl, hb2⟩
          have hH2 := hid (hH0.out.below hb2 hH0.out.lt)
          have hR2 := hid (hR0.out.below hb2 hR0.out.lt)
          have hS2 := hid (hS0.out.below hb2 hS0.out.lt)
          have hB2 := hid (below_up hb2 hb0.out)
          clear hb2
          rename_i hK1
          refine hK1 _ _ ?_
          clear hK1
          go_wp2_with (first
            | ((with_reducible refine at_slot (some 53) ?_); refine wpList_load_far rfl 28 (.tmp 52) rfl (p.add ((q - 1) * 32)) rfl ct _ (htc'.out _ hB2.out) Try.underlying28 rfl (by exact hCt.out.size') ?_)
            | ((with_reducible refine at_slot (some 14) ?_); refine wpList_run rfl (.pointer (some ⟨W2.heap.size, 0, none⟩)) (W2.alloc (.cells z32 28)) (by kernel_rfl) ?_)
            | ((with_reducible refine at_slot none ?_); refine wpList_store_mid rfl 28 (.tmp 14) (.tmp 53) rfl W2.heap.size 0 ct.toArray rfl rfl (by exact hCt.out.there W2) (by exact hCt.out.size) (by exact hCt.out.one) ?_; generalize hW3 : World.setCells _ _ _ _ = W3; obtain ⟨hT3, hb3⟩ := hCt.out.new hW3; have hT3' := hid hT3; have hH3 := hid (hH2.out.below hb3 hH2.out.lt); have hR3 := hid (hR2.out.below hb3 hR2.out.lt); have hS3 := hid (hS2.out.below hb3 hS2.out.lt); have hB3 := hid (below_up hb3 hB2.out); have hge14 : w.heap.size + 3 ≤ W2.heap.size := (by have := hS2.out.lt; omega); clear hW3 hT3 hb3)
            | fail)
          have hdr : Below W3.heap.size W3 W3.drew := (Below.refl _ _).drew
          have hT4 := hid (hT3'.out.below hdr hT3'.out.lt)
          have hH4 := hid (hH3.out.below hdr hH3.out.lt)
          have hR4 := hid (hR3.out.below hdr hR3.out.lt)
          have hS4 := hid (hS3.out.below hdr hS3.out.lt)
          have hB4 := hid (below_up hdr hB3.out)
          clear hdr hT3' hH3 hR3 hB3 hS3
          refine wp_region_held_drew (S := fun W => Holds W w.heap.size 28 ch) (by kernel_rfl) (by exact hH4.out) (fun hHeld => ?_)
          generalize W3.drew = Wb at *
          have hwb : W2.heap.size < Wb.heap.size := hT4.out.lt
          refine wpAnyH_take (i := 0) (v := .int .i64 (m : Int)) rfl (by kernel_rfl) (by kernel_rfl) (by kernel_rfl) (fun _ _ _ h => h) (yieldsIf_move _ rfl rfl rfl) hHeld ?_
          simp only [ly1, ly2, ly3, Act.put, ly5, ly6, ly7]
          refine wpAnyH_take (i := 1) (v := .int .i64 (k : Int)) rfl (by kernel_rfl) (by kernel_rfl) (by kernel_rfl) (fun _ _ _ h => h) (yieldsIf_move _ rfl rfl rfl) hHeld ?_
          simp only [ly1, ly2, ly3, Act.put, ly5, ly6, ly7]
          refine wpAnyH_take (i := 2) (v := .int .i64 ((m : Int) - (k : Int))) rfl (by kernel_rfl) (by kernel_rfl) (by kernel_rfl) (fun _ _ _ h => h) (.inl ⟨by kernel_rfl, fun w _ => by go_simp⟩) hHeld ?_
          simp only [ly1, ly2, ly3, Act.put, ly5, ly6, ly7]
          refine wpAnyH_take (i := 3) (v := .int .i64 (n : Int)) rfl (by kernel_rfl) (by kernel_rfl) (by kernel_rfl) (fun _ _ _ h => h) (yieldsIf_move _ rfl rfl rfl) hHeld ?_
          simp only [ly1, ly2, ly3, Act.put, ly5, ly6, ly7]
          refine wpAnyH_take (i := 4) (v := .int .i64 (k : Int)) rfl (by kernel_rfl) (by kernel_rfl) (by kernel_rfl) (fun _ _ _ h => h) (yieldsIf_move _ rfl rfl rfl) hHeld ?_
          simp only [ly1, ly2, ly3, Act.put, ly5, ly6, ly7]
          refine wpAnyH_take (i := 5) (v := .int .i64 ((n : Int) - (k : Int))) rfl (by kernel_rfl) (by kernel_rfl) (by kernel_rfl) (fun _ _ _ h => h) (.inl ⟨by kernel_rfl, fun w _ => by go_simp⟩) hHeld ?_
          simp only [ly1, ly2, ly3, Act.put, ly5, ly6, ly7]
          refine wpAnyH_take (i := 6) (v := .agg ch.toArray) rfl (by kernel_rfl) (by kernel_rfl) (by kernel_rfl) (fun _ _ _ h => h) (yieldsIf_load_mid (by kernel_rfl) _ _ rfl _ _ rfl _ _ (fun W h => h_all h) Try.underlying28 rfl (by exact hC.out.size')) hHeld ?_
          simp only [ly1, ly2, ly3, Act.put, ly5, ly6, ly7]
          refine wpAnyH_take (i := 7) (v := .slice (some p) q c) rfl (by kernel_rfl) (by kernel_rfl) (by kernel_rfl) (fun _ _ _ h => h) (yieldsIf_move _ rfl rfl rfl) hHeld ?_
          simp only [ly1, ly2, ly3, Act.put, ly5, ly6, ly7]
          refine wpAnyH_take (i := 8) (v := .slice (some p) q c) rfl (by kernel_rfl) (by kernel_rfl) (by kernel_rfl) (fun _ _ _ h => h) (yieldsIf_move _ rfl rfl rfl) hHeld ?_
          simp only [ly1, ly2, ly3, Act.put, ly5, ly6, ly7]
          refine wpAnyH_take (i := 9) (v := .int .i64 (q : Int)) rfl (by kernel_rfl) (by kernel_rfl) (by kernel_rfl) (fun _ _ _ h => h) (.inl ⟨by kernel_rfl, fun w _ => by go_simp⟩) hHeld ?_
          simp only [ly1, ly2, ly3, Act.put, ly5, ly6, ly7]
          refine wpAnyH_take (i := 10) (v := .int .i64 ((q : Int) - 1)) rfl (by kernel_rfl) (by kernel_rfl) (by kernel_rfl) (fun _ _ _ h => h) (.inl ⟨by kernel_rfl, fun w _ => by go_simp⟩) hHeld ?_
          simp only [ly1, ly2, ly3, Act.put, ly5, ly6, ly7]
          refine wpAnyH_take (i := 11) (v := .slice (some p) (q - 1) c) rfl (by kernel_rfl) (by kernel_rfl) (by kernel_rfl) (fun _ _ _ h => h) (.inl ⟨by kernel_rfl, fun w _ => by go_simp⟩) hHeld ?_
          simp only [ly1, ly2, ly3, Act.put, ly5, ly6, ly7]
          have hb_0 := hid (Below.refl Wb.heap.size Wb)
          refine wpAnyH_ready (rs := [12, 17, 18]) (by kernel_rfl) (by simp) (AllReadyH.cons rfl (fun K hK => ?_) (AllReadyH.cons rfl (fun K hK => ?_) (AllReadyH.cons rfl (fun K hK => ?_) AllReadyH.nil)))
          · skip
            have hK' := hid hK
            clear hK
            rw [if_pos (by kernel_rfl)]
            simp only [ly1, ly2, ly3]
            go_simp
            refine (hrec.out _ (below_up (hb_0.out) hB4.out)).mono ?_
            rintro e W_call_1 ⟨rfl, hbc⟩
            have hb_1 := hid (hb_0.out.trans (hbc.mono hb_0.out.size))
            clear hbc hb_0
            refine hK'.out _ _ (by exact (hH4.out.below hb_1.out hH4.out.lt)) (fun hHeld => ?_)
            clear hK' K
            refine wpAnyH_take (i := 13) (v := .tuple #[.agg cr.toArray, .agg cs.toArray, .bool ok]) rfl (by kernel_rfl) (by kernel_rfl) (by kernel_rfl) (fun _ _ _ h => h) (yieldsIf_move _ rfl rfl rfl) hHeld ?_
            simp only [ly1, ly2, ly3, Act.put, ly5, ly6, ly7]
            refine wpAnyH_take (i := 14) (v := .agg cr.toArray) rfl (by kernel_rfl) (by kernel_rfl) (by kernel_rfl) (fun _ _ _ h => h) (.inl ⟨by kernel_rfl, fun w _ => by go_simp⟩) hHeld ?_
            simp only [ly1, ly2, ly3, Act.put, ly5, ly6, ly7]
            refine wpAnyH_take (i := 15) (v := .agg cs.toArray) rfl (by kernel_rfl) (by kernel_rfl) (by kernel_rfl) (fun _ _ _ h => h) (.inl ⟨by kernel_rfl, fun w _ => by go_simp⟩) hHeld ?_
            simp only [ly1, ly2, ly3, Act.put, ly5, ly6, ly7]
            refine wpAnyH_take (i := 16) (v := .bool ok) rfl (by kernel_rfl) (by kernel_rfl) (by kernel_rfl) (fun _ _ _ h => h) (.inl ⟨by kernel_rfl, fun w _ => by go_simp⟩) hHeld ?_
            simp only [ly1, ly2, ly3, Act.put, ly5, ly6, ly7]
            refine wpAnyH_ready (rs := [17, 18]) (by kernel_rfl) (by simp) (AllReadyH.cons rfl (fun K hK => ?_) (AllReadyH.cons rfl (fun K hK => ?_) AllReadyH.nil))
            · skip
              have hK' := hid hK
              clear hK
              rw [if_pos (by kernel_rfl)]
              simp only [ly1, ly2, ly3]
              obtain ⟨g1, hqg1⟩ : ∃ g, g = W_call_1.heap.size := ⟨_, rfl⟩
              refine wp_run (.pointer (some ⟨g1, 0, none⟩)) (W_call_1.alloc (.cells z32 28)) (by rw [hqg1]; kernel_rfl) ?_
              have hb_2 := hid (hb_1.out.alloc hb_1.out.size (.cells z32 28))
              have hN2_g1 := hid (show Holds (W_call_1.alloc (.cells z32 28)) g1 28 (z32).toList from by rw [hqg1]; exact Holds.new W_call_1 _ _)
              have hgeg1 : Wb.heap.size ≤ g1 := by rw [hqg1]; exact hb_1.out.size
              generalize hWg1 : W_call_1.alloc (.cells z32 28) = W_g1_2 at *
              clear hWg1 hqg1 hb_1
              refine hK'.out _ _ (by exact (hH4.out.below hb_2.out hH4.out.lt)) (fun hHeld => ?_)
              clear hK' K
              refine wpAnyH_ready (rs := [18]) (by kernel_rfl) (by simp) (AllReadyH.cons rfl (fun K hK => ?_) AllReadyH.nil)
              have hK' := hid hK
              clear hK
              rw [if_pos (by kernel_rfl)]
              simp only [ly1, ly2, ly3]
              obtain ⟨g2, hqg2⟩ : ∃ g, g = W_g1_2.heap.size := ⟨_, rfl⟩
              refine wp_run (.pointer (some ⟨g2, 0, none⟩)) (W_g1_2.alloc (.cells z32 28)) (by rw [hqg2]; kernel_rfl) ?_
              have hb_3 := hid (hb_2.out.alloc hb_2.out.size (.cells z32 28))
              have hN3_g2 := hid (show Holds (W_g1_2.alloc (.cells z32 28)) g2 28 (z32).toList from by rw [hqg2]; exact Holds.new W_g1_2 _ _)
              have hgeg2 : Wb.heap.size ≤ g2 := by rw [hqg2]; exact hb_2.out.size
              have hN3_g1 := hid (hN2_g1.out.alloc (.cells z32 28))
              have hne_g1_g2 : g1 ≠ g2 := by have := hN2_g1.out.lt; omega
              generalize hWg2 : W_g1_2.alloc (.cells z32 28) = W_g2_3 at *
              clear hWg2 hqg2 hb_2 hN2_g1
              refine hK'.out _ _ (by exact (hH4.out.below hb_3.out hH4.out.lt)) (fun hHeld => ?_)
              clear hK' K
              refine wpAnyH_ready (rs := [19]) (by kernel_rfl) (by simp) (AllReadyH.cons rfl (fun K hK => ?_) AllReadyH.nil)
              have hK' := hid hK
              clear hK
              rw [if_pos (by kernel_rfl)]
              simp only [ly1, ly2, ly3]
              refine wp_store_mid _ _ _ rfl g1 0 cr.toArray rfl rfl (by exact hCr.out.there' hN3_g1.out rfl) (by exact hCr.out.size) (by exact hCr.out.one) ?_
              generalize hW5 : World.setCells _ _ _ _ = W5
              obtain ⟨hG5, hb5⟩ := hCr.out.set hN3_g1.out rfl hW5 hb_3.out (by omega)
              have hG5' := hid hG5
              have hF5 := hid (holds_far hN3_g2.out (Ne.symm hne_g1_g2) hW5)
              have hb5' := hid hb5
              have hH5 := hid (hH4.out.below hb5 hH4.out.lt)
              clear hW5 hG5 hb5 hb_3 hN3_g1 hN3_g2
              refine hK'.out _ _ (by exact hH5.out) (fun hHeld => ?_)
              clear hK' K
              refine wpAnyH_ready (rs := [20]) (by kernel_rfl) (by simp) (AllReadyH.cons rfl (fun K hK => ?_) AllReadyH.nil)
              have hK' := hid hK
              clear hK
              rw [if_pos (by kernel_rfl)]
              simp only [ly1, ly2, ly3]
              refine wp_store_mid _ _ _ rfl g2 0 cs.toArray rfl rfl (by exact hCs.out.there' hF5.out rfl) (by exact hCs.out.size) (by exact hCs.out.one) ?_
              generalize hW6 : World.setCells _ _ _ _ = W6
              obtain ⟨hF6, hb6⟩ := hCs.out.set hF5.out rfl hW6 hb5'.out (by omega)
              have hF6' := hid hF6
              have hG6 := hid (holds_far hG5'.out hne_g1_g2 hW6)
              have hT6 := hid (hT4.out.below hb6 hT4.out.lt)
              have hH6 := hid (hH4.out.below hb6 hH4.out.lt)
              have hR6 := hid (hR4.out.below hb6 hR4.out.lt)
              have hS6 := hid (hS4.out.below hb6 hS4.out.lt)
              have hB6 := hid (below_up hb6 hB4.out)
              clear hW6 hF6 hb6 hb5' hF5 hG5' hH5
              refine hK'.out _ _ (by exact hH6.out) (fun hHeld => ?_)
              clear hK' K
              refine wpAnyH_take (i := 21) (v := .bool ok) rfl (by kernel_rfl) (by kernel_rfl) (by kernel_rfl) (fun _ _ _ h => h) (yieldsIf_assign _ rfl rfl rfl) hHeld ?_
              simp only [ly1, ly2, ly3, Act.put, ly5, ly6, ly7]
              refine wpAnyH_done (by kernel_rfl) ?_ _
              clear hHeld
              have hdr : Below W6.heap.size W6 W6.drew := (Below.refl _ _).drew
              have hF7 := hid (hF6'.out.below hdr hF6'.out.lt)
              have hG7 := hid (hG6.out.below hdr hG6.out.lt)
              have hT7 := hid (hT6.out.below hdr hT6.out.lt)
              have hR7 := hid (hR6.out.below hdr hR6.out.lt)
              have hS7 := hid (hS6.out.below hdr hS6.out.lt)
              have hB7 := hid (below_up hdr hB6.out)
              clear hdr hF6' hG6 hT6 hH6 hR6 hS6 hB6
              go_wp2_with fail
              refine wp_region_held_drew (S := fun W => (Holds W g1 28 cr ∧ Holds W g2 28 cs) ∧ Holds W W2.heap.size 28 ct) (by kernel_rfl) (by exact ⟨⟨hG7.out, hF7.out⟩, hT7.out⟩) (fun hHeld => ?_)
              generalize W6.drew = Wc at *
              refine wpAnyH_take (i := 0) (v := .agg ct.toArray) rfl (by kernel_rfl) (by kernel_rfl) (by kernel_rfl) (fun _ _ _ h => h) (yieldsIf_load_mid (by kernel_rfl) _ _ rfl _ _ rfl _ _ (fun W h => h_all h.2) Try.underlying28 rfl (by exact hCt.out.size')) hHeld ?_
              simp only [ly1, ly2, ly3, Act.put, ly5, ly6, ly7]
              refine wpAnyH_take (i := 1) (v := .agg cr.toArray) rfl (by kernel_rfl) (by kernel_rfl) (by kernel_rfl) (fun _ _ _ h => h) (yieldsIf_load_mid (by kernel_rfl) _ _ rfl _ _ rfl _ _ (fun W h => h_all h.1.1) Try.underlying28 rfl (by exact hCr.out.size')) hHeld ?_
              simp only [ly1, ly2, ly3, Act.put, ly5, ly6, ly7]
              refine wpAnyH_take (i := 3) (v := .agg ct.toArray) rfl (by kernel_rfl) (by kernel_rfl) (by kernel_rfl) (fun _ _ _ h => h) (yieldsIf_load_mid (by kernel_rfl) _ _ rfl _ _ rfl _ _ (fun W h => h_all h.2) Try.underlying28 rfl (by exact hCt.out.size')) hHeld ?_
              simp only [ly1, ly2, ly3, Act.put, ly5, ly6, ly7]
              refine wpAnyH_take (i := 4) (v := .agg cs.toArray) rfl (by kernel_rfl) (by kernel_rfl) (by kernel_rfl) (fun _ _ _ h => h) (yieldsIf_load_mid (by kernel_rfl) _ _ rfl _ _ rfl _ _ (fun W h => h_all h.1.2) Try.underlying28 rfl (by exact hCs.out.size')) hHeld ?_
              simp only [ly1, ly2, ly3, Act.put, ly5, ly6, ly7]
              refine wpAnyH_take (i := 6) (v := .bool ok) rfl (by kernel_rfl) (by kernel_rfl) (by kernel_rfl) (fun _ _ _ h => h) (yieldsIf_move _ rfl rfl rfl) hHeld ?_
              simp only [ly1, ly2, ly3, Act.put, ly5, ly6, ly7]
              refine wpAnyH_ready (rs := [2]) (by kernel_rfl) (by simp) (AllReadyH.cons rfl (fun K hK => ?_) AllReadyH.nil)
              have hK' := hid hK
              clear hK
              rw [if_pos (by kernel_rfl)]
              simp only [ly1, ly2, ly3]
              go_simp
              refine (hro1.out _).mono ?_
              rintro e WV ⟨rfl, hb8⟩
              have hFV := hid (hF7.out.below hb8 hF7.out.lt)
              have hGV := hid (hG7.out.below hb8 hG7.out.lt)
              have hTV := hid (hT7.out.below hb8 hT7.out.lt)
              have hRV := hid (hR7.out.below hb8 hR7.out.lt)
              have hSV := hid (hS7.out.below hb8 hS7.out.lt)
              have hBV := hid (below_up hb8 hB7.out)
              clear hb8 hF7 hG7 hT7 hR7 hS7 hB7
              refine hK'.out _ _ (by exact ⟨⟨hGV.out, hFV.out⟩, hTV.out⟩) (fun hHeld => ?_)
              clear hK' K
              refine wpAnyH_ready (rs := [5]) (by kernel_rfl) (by simp) (AllReadyH.cons rfl (fun K hK => ?_) AllReadyH.nil)
              have hK' := hid hK
              clear hK
              rw [if_pos (by kernel_rfl)]
              simp only [ly1, ly2, ly3]
              go_simp
              refine (hro2.out _).mono ?_
              rintro e WY ⟨rfl, hb8⟩
              have hFY := hid (hFV.out.below hb8 hFV.out.lt)
              have hGY := hid (hGV.out.below hb8 hGV.out.lt)
              have hTY := hid (hTV.out.below hb8 hTV.out.lt)
              have hRY := hid (hRV.out.below hb8 hRV.out.lt)
              have hSY := hid (hSV.out.below hb8 hSV.out.lt)
              have hBY := hid (below_up hb8 hBV.out)
              clear hb8 hFV hGV hTV hRV hSV hBV
              refine hK'.out _ _ (by exact ⟨⟨hGY.out, hFY.out⟩, hTY.out⟩) (fun hHeld => ?_)
              clear hK' K
              refine wpAnyH_ready (rs := [7]) (by kernel_rfl) (by simp) (AllReadyH.cons rfl (fun K hK => ?_) AllReadyH.nil)
              have hK' := hid hK
              clear hK
              rw [if_pos (by kernel_rfl)]
              simp only [ly1, ly2, ly3]
              refine wp_store_mid _ _ _ rfl (w.heap.size + 1) 0 cn1.toArray rfl rfl (by exact hCn1.out.there' hRY.out rfl) (by exact hCn1.out.size) (by exact hCn1.out.one) ?_
              generalize hX1 : World.setCells _ _ _ _ = X1
              obtain ⟨hRx, hbx⟩ := hCn1.out.set hRY.out rfl hX1 hBY.out (by omega)
              have hRx1 := hid hRx
              have hbx1 := hid hbx
              have hSx1 := hid (holds_far hSY.out (by omega) hX1)
              have hFx1 := hid (holds_far hFY.out (by omega) hX1)
              have hGx1 := hid (holds_far hGY.out (by omega) hX1)
              have hTx1 := hid (holds_far hTY.out (by omega) hX1)
              clear hX1 hRx hbx
              refine hK'.out _ _ (by exact ⟨⟨hGx1.out, hFx1.out⟩, hTx1.out⟩) (fun hHeld => ?_)
              clear hK' K
              refine wpAnyH_ready (rs := [8]) (by kernel_rfl) (by simp) (AllReadyH.cons rfl (fun K hK => ?_) AllReadyH.nil)
              have hK' := hid hK
              clear hK
              rw [if_pos (by kernel_rfl)]
              simp only [ly1, ly2, ly3]
              refine wp_store_mid _ _ _ rfl (w.heap.size + 2) 0 cn2.toArray rfl rfl (by exact hCn2.out.there' hSx1.out rfl) (by exact hCn2.out.size) (by exact hCn2.out.one) ?_
              generalize hX2 : World.setCells _ _ _ _ = X2
              obtain ⟨hSx, hbx⟩ := hCn2.out.set hSx1.out rfl hX2 hbx1.out (by omega)
              have hSx2 := hid hSx
              have hbx2 := hid hbx
              have hRx2 := hid (holds_far hRx1.out (by omega) hX2)
              have hFx2 := hid (holds_far hFx1.out (by omega) hX2)
              have hGx2 := hid (holds_far hGx1.out (by omega) hX2)
              have hTx2 := hid (holds_far hTx1.out (by omega) hX2)
              clear hX2 hSx hbx
              refine hK'.out _ _ (by exact ⟨⟨hGx2.out, hFx2.out⟩, hTx2.out⟩) (fun hHeld => ?_)
              clear hK' K
              refine wpAnyH_take (i := 9) (v := .bool ok) rfl (by kernel_rfl) (by kernel_rfl) (by kernel_rfl) (fun _ _ _ h => h) (yieldsIf_assign _ rfl rfl rfl) hHeld ?_
              simp only [ly1, ly2, ly3, Act.put, ly5, ly6, ly7]
              refine wpAnyH_done (by kernel_rfl) ?_ _
              clear hHeld
              go_wp2_with fail
              exact bodyPost_ret (results_cct rfl _ _ (w.heap.size + 1) (w.heap.size + 2) 28 _ _ _ rfl rfl hRx2.out hSx2.out (.bool ok) rfl Try.underlying28 rfl (by exact hCn1.out.size) (by exact hCn2.out.size)) rfl ⟨rfl, hbx2.out⟩

            · skip
              have hK' := hid hK
              clear hK
              rw [if_pos (by kernel_rfl)]
              simp only [ly1, ly2, ly3]
              obtain ⟨g2, hqg2⟩ : ∃ g, g = W_call_1.heap.size := ⟨_, rfl⟩
              refine wp_run (.pointer (some ⟨g2, 0, none⟩)) (W_call_1.alloc (.cells z32 28)) (by rw [hqg2]; kernel_rfl) ?_
              have hb_2 := hid (hb_1.out.alloc hb_1.out.size (.cells z32 28))
              have hN2_g2 := hid (show Holds (W_call_1.alloc (.cells z32 28)) g2 28 (z32).toList from by rw [hqg2]; exact Holds.new W_call_1 _ _)
              have hgeg2 : Wb.heap.size ≤ g2 := by rw [hqg2]; exact hb_1.out.size
              generalize hWg2 : W_call_1.alloc (.cells z32 28) = W_g2_2 at *
              clear hWg2 hqg2 hb_1
              refine hK'.out _ _ (by exact (hH4.out.below hb_2.out hH4.out.lt)) (fun hHeld => ?_)
              clear hK' K
              refine wpAnyH_ready (rs := [17]) (by kernel_rfl) (by simp) (AllReadyH.cons rfl (fun K hK => ?_) AllReadyH.nil)
              have hK' := hid hK
              clear hK
              rw [if_pos (by kernel_rfl)]
              simp only [ly1, ly2, ly3]
              obtain ⟨g1, hqg1⟩ : ∃ g, g = W_g2_2.heap.size := ⟨_, rfl⟩
              refine wp_run (.pointer (some ⟨g1, 0, none⟩)) (W_g2_2.alloc (.cells z32 28)) (by rw [hqg1]; kernel_rfl) ?_
              have hb_3 := hid (hb_2.out.alloc hb_2.out.size (.cells z32 28))
              have hN3_g1 := hid (show Holds (W_g2_2.alloc (.cells z32 28)) g1 28 (z32).toList from by rw [hqg1]; exact Holds.new W_g2_2 _ _)
              have hgeg1 : Wb.heap.size ≤ g1 := by rw [hqg1]; exact hb_2.out.size
              have hN3_g2 := hid (hN2_g2.out.alloc (.cells z32 28))
              have hne_g1_g2 : g1 ≠ g2 := by have := hN2_g2.out.lt; omega
              generalize hWg1 : W_g2_2.alloc (.cells z32 28) = W_g1_3 at *
              clear hWg1 hqg1 hb_2 hN2_g2
              refine hK'.out _ _ (by exact (hH4.out.below hb_3.out hH4.out.lt)) (fun hHeld => ?_)
              clear hK' K
              refine wpAnyH_ready (rs := [19]) (by kernel_rfl) (by simp) (AllReadyH.cons rfl (fun K hK => ?_) AllReadyH.nil)
              have hK' := hid hK
              clear hK
              rw [if_pos (by kernel_rfl)]
              simp only [ly1, ly2, ly3]
              refine wp_store_mid _ _ _ rfl g1 0 cr.toArray rfl rfl (by exact hCr.out.there' hN3_g1.out rfl) (by exact hCr.out.size) (by exact hCr.out.one) ?_
              generalize hW5 : World.setCells _ _ _ _ = W5
              obtain ⟨hG5, hb5⟩ := hCr.out.set hN3_g1.out rfl hW5 hb_3.out (by omega)
              have hG5' := hid hG5
              have hF5 := hid (holds_far hN3_g2.out (Ne.symm hne_g1_g2) hW5)
              have hb5' := hid hb5
              have hH5 := hid (hH4.out.below hb5 hH4.out.lt)
              clear hW5 hG5 hb5 hb_3 hN3_g1 hN3_g2
              refine hK'.out _ _ (by exact hH5.out) (fun hHeld => ?_)
              clear hK' K
              refine wpAnyH_ready (rs := [20]) (by kernel_rfl) (by simp) (AllReadyH.cons rfl (fun K hK => ?_) AllReadyH.nil)
              have hK' := hid hK
              clear hK
              rw [if_pos (by kernel_rfl)]
              simp only [ly1, ly2, ly3]
              refine wp_store_mid _ _ _ rfl g2 0 cs.toArray rfl rfl (by exact hCs.out.there' hF5.out rfl) (by exact hCs.out.size) (by exact hCs.out.one) ?_
              generalize hW6 : World.setCells _ _ _ _ = W6
              obtain ⟨hF6, hb6⟩ := hCs.out.set hF5.out rfl hW6 hb5'.out (by omega)
              have hF6' := hid hF6
              have hG6 := hid (holds_far hG5'.out hne_g1_g2 hW6)
              have hT6 := hid (hT4.out.below hb6 hT4.out.lt)
              have hH6 := hid (hH4.out.below hb6 hH4.out.lt)
              have hR6 := hid (hR4.out.below hb6 hR4.out.lt)
              have hS6 := hid (hS4.out.below hb6 hS4.out.lt)
              have hB6 := hid (below_up hb6 hB4.out)
              clear hW6 hF6 hb6 hb5' hF5 hG5' hH5
              refine hK'.out _ _ (by exact hH6.out) (fun hHeld => ?_)
              clear hK' K
              refine wpAnyH_take (i := 21) (v := .bool ok) rfl (by kernel_rfl) (by kernel_rfl) (by kernel_rfl) (fun _ _ _ h => h) (yieldsIf_assign _ rfl rfl rfl) hHeld ?_
              simp only [ly1, ly2, ly3, Act.put, ly5, ly6, ly7]
              refine wpAnyH_done (by kernel_rfl) ?_ _
              clear hHeld
              have hdr : Below W6.heap.size W6 W6.drew := (Below.refl _ _).drew
              have hF7 := hid (hF6'.out.below hdr hF6'.out.lt)
              have hG7 := hid (hG6.out.below hdr hG6.out.lt)
              have hT7 := hid (hT6.out.below hdr hT6.out.lt)
              have hR7 := hid (hR6.out.below hdr hR6.out.lt)
              have hS7 := hid (hS6.out.below hdr hS6.out.lt)
              have hB7 := hid (below_up hdr hB6.out)
              clear hdr hF6' hG6 hT6 hH6 hR6 hS6 hB6
              go_wp2_with fail
              refine wp_region_held_drew (S := fun W => (Holds W g1 28 cr ∧ Holds W g2 28 cs) ∧ Holds W W2.heap.size 28 ct) (by kernel_rfl) (by exact ⟨⟨hG7.out, hF7.out⟩, hT7.out⟩) (fun hHeld => ?_)
              generalize W6.drew = Wc at *
              refine wpAnyH_take (i := 0) (v := .agg ct.toArray) rfl (by kernel_rfl) (by kernel_rfl) (by kernel_rfl) (fun _ _ _ h => h) (yieldsIf_load_mid (by kernel_rfl) _ _ rfl _ _ rfl _ _ (fun W h => h_all h.2) Try.underlying28 rfl (by exact hCt.out.size')) hHeld ?_
              simp only [ly1, ly2, ly3, Act.put, ly5, ly6, ly7]
              refine wpAnyH_take (i := 1) (v := .agg cr.toArray) rfl (by kernel_rfl) (by kernel_rfl) (by kernel_rfl) (fun _ _ _ h => h) (yieldsIf_load_mid (by kernel_rfl) _ _ rfl _ _ rfl _ _ (fun W h => h_all h.1.1) Try.underlying28 rfl (by exact hCr.out.size')) hHeld ?_
              simp only [ly1, ly2, ly3, Act.put, ly5, ly6, ly7]
              refine wpAnyH_take (i := 3) (v := .agg ct.toArray) rfl (by kernel_rfl) (by kernel_rfl) (by kernel_rfl) (fun _ _ _ h => h) (yieldsIf_load_mid (by kernel_rfl) _ _ rfl _ _ rfl _ _ (fun W h => h_all h.2) Try.underlying28 rfl (by exact hCt.out.size')) hHeld ?_
              simp only [ly1, ly2, ly3, Act.put, ly5, ly6, ly7]
              refine wpAnyH_take (i := 4) (v := .agg cs.toArray) rfl (by kernel_rfl) (by kernel_rfl) (by kernel_rfl) (fun _ _ _ h => h) (yieldsIf_load_mid (by kernel_rfl) _ _ rfl _ _ rfl _ _ (fun W h => h_all h.1.2) Try.underlying28 rfl (by exact hCs.out.size')) hHeld ?_
              simp only [ly1, ly2, ly3, Act.put, ly5, ly6, ly7]
              refine wpAnyH_take (i := 6) (v := .bool ok) rfl (by kernel_rfl) (by kernel_rfl) (by kernel_rfl) (fun _ _ _ h => h) (yieldsIf_move _ rfl rfl rfl) hHeld ?_
              simp only [ly1, ly2, ly3, Act.put, ly5, ly6, ly7]
              refine wpAnyH_ready (rs := [2]) (by kernel_rfl) (by simp) (AllReadyH.cons rfl (fun K hK => ?_) AllReadyH.nil)
              have hK' := hid hK
              clear hK
              rw [if_pos (by kernel_rfl)]
              simp only [ly1, ly2, ly3]
              go_simp
              refine (hro1.out _).mono ?_
              rintro e WV ⟨rfl, hb8⟩
              have hFV := hid (hF7.out.below hb8 hF7.out.lt)
              have hGV := hid (hG7.out.below hb8 hG7.out.lt)
              have hTV := hid (hT7.out.below hb8 hT7.out.lt)
              have hRV := hid (hR7.out.below hb8 hR7.out.lt)
              have hSV := hid (hS7.out.below hb8 hS7.out.lt)
              have hBV := hid (below_up hb8 hB7.out)
              clear hb8 hF7 hG7 hT7 hR7 hS7 hB7
              refine hK'.out _ _ (by exact ⟨⟨hGV.out, hFV.out⟩, hTV.out⟩) (fun hHeld => ?_)
              clear hK' K
              refine wpAnyH_ready (rs := [5]) (by kernel_rfl) (by simp) (AllReadyH.cons rfl (fun K hK => ?_) AllReadyH.nil)
              have hK' := hid hK
              clear hK
              rw [if_pos (by kernel_rfl)]
              simp only [ly1, ly2, ly3]
              go_simp
              refine (hro2.out _).mono ?_
              rintro e WY ⟨rfl, hb8⟩
              have hFY := hid (hFV.out.below hb8 hFV.out.lt)
              have hGY := hid (hGV.out.below hb8 hGV.out.lt)
              have hTY := hid (hTV.out.below hb8 hTV.out.lt)
              have hRY := hid (hRV.out.below hb8 hRV.out.lt)
              have hSY := hid (hSV.out.below hb8 hSV.out.lt)
              have hBY := hid (below_up hb8 hBV.out)
              clear hb8 hFV hGV hTV hRV hSV hBV
              refine hK'.out _ _ (by exact ⟨⟨hGY.out, hFY.out⟩, hTY.out⟩) (fun hHeld => ?_)
              clear hK' K
              refine wpAnyH_ready (rs := [7]) (by kernel_rfl) (by simp) (AllReadyH.cons rfl (fun K hK => ?_) AllReadyH.nil)
              have hK' := hid hK
              clear hK
              rw [if_pos (by kernel_rfl)]
              simp only [ly1, ly2, ly3]
              refine wp_store_mid _ _ _ rfl (w.heap.size + 1) 0 cn1.toArray rfl rfl (by exact hCn1.out.there' hRY.out rfl) (by exact hCn1.out.size) (by exact hCn1.out.one) ?_
              generalize hX1 : World.setCells _ _ _ _ = X1
              obtain ⟨hRx, hbx⟩ := hCn1.out.set hRY.out rfl hX1 hBY.out (by omega)
              have hRx1 := hid hRx
              have hbx1 := hid hbx
              have hSx1 := hid (holds_far hSY.out (by omega) hX1)
              have hFx1 := hid (holds_far hFY.out (by omega) hX1)
              have hGx1 := hid (holds_far hGY.out (by omega) hX1)
              have hTx1 := hid (holds_far hTY.out (by omega) hX1)
              clear hX1 hRx hbx
              refine hK'.out _ _ (by exact ⟨⟨hGx1.out, hFx1.out⟩, hTx1.out⟩) (fun hHeld => ?_)
              clear hK' K
              refine wpAnyH_ready (rs := [8]) (by kernel_rfl) (by simp) (AllReadyH.cons rfl (fun K hK => ?_) AllReadyH.nil)
              have hK' := hid hK
              clear hK
              rw [if_pos (by kernel_rfl)]
              simp only [ly1, ly2, ly3]
              refine wp_store_mid _ _ _ rfl (w.heap.size + 2) 0 cn2.toArray rfl rfl (by exact hCn2.out.there' hSx1.out rfl) (by exact hCn2.out.size) (by exact hCn2.out.one) ?_
              generalize hX2 : World.setCells _ _ _ _ = X2
              obtain ⟨hSx, hbx⟩ := hCn2.out.set hSx1.out rfl hX2 hbx1.out (by omega)
              have hSx2 := hid hSx
              have hbx2 := hid hbx
              have hRx2 := hid (holds_far hRx1.out (by omega) hX2)
              have hFx2 := hid (holds_far hFx1.out (by omega) hX2)
              have hGx2 := hid (holds_far hGx1.out (by omega) hX2)
              have hTx2 := hid (holds_far hTx1.out (by omega) hX2)
              clear hX2 hSx hbx
              refine hK'.out _ _ (by exact ⟨⟨hGx2.out, hFx2.out⟩, hTx2.out⟩) (fun hHeld => ?_)
              clear hK' K
              refine wpAnyH_take (i := 9) (v := .bool ok) rfl (by kernel_rfl) (by kernel_rfl) (by kernel_rfl) (fun _ _ _ h => h) (yieldsIf_assign _ rfl rfl rfl) hHeld ?_
              simp only [ly1, ly2, ly3, Act.put, ly5, ly6, ly7]
              refine wpAnyH_done (by kernel_rfl) ?_ _
              clear hHeld
              go_wp2_with fail
              exact bodyPost_ret (results_cct rfl _ _ (w.heap.size + 1) (w.heap.size + 2) 28 _ _ _ rfl rfl hRx2.out hSx2.out (.bool ok) rfl Try.underlying28 rfl (by exact hCn1.out.size) (by exact hCn2.out.size)) rfl ⟨rfl, hbx2.out⟩

          · skip
            have hK' := hid hK
            clear hK
            rw [if_pos (by kernel_rfl)]
            simp only [ly1, ly2, ly3]
            obtain ⟨g1, hqg1⟩ : ∃ g, g = Wb.heap.size := ⟨_, rfl⟩
            refine wp_run (.pointer (some ⟨g1, 0, none⟩)) (Wb.alloc (.cells z32 28)) (by rw [hqg1]; kernel_rfl) ?_
            have hb_1 := hid (hb_0.out.alloc hb_0.out.size (.cells z32 28))
            have hN1_g1 := hid (show Holds (Wb.alloc (.cells z32 28)) g1 28 (z32).toList from by rw [hqg1]; exact Holds.new Wb _ _)
            have hgeg1 : Wb.heap.size ≤ g1 := by rw [hqg1]; exact hb_0.out.size
            generalize hWg1 : Wb.alloc (.cells z32 28) = W_g1_1 at *
            clear hWg1 hqg1 hb_0
            refine hK'.out _ _ (by exact (hH4.out.below hb_1.out hH4.out.lt)) (fun hHeld => ?_)
            clear hK' K
            refine wpAnyH_ready (rs := [12, 18]) (by kernel_rfl) (by simp) (AllReadyH.cons rfl (fun K hK => ?_) (AllReadyH.cons rfl (fun K hK => ?_) AllReadyH.nil))
            · skip
              have hK' := hid hK
              clear hK
              rw [if_pos (by kernel_rfl)]
              simp only [ly1, ly2, ly3]
              go_simp
              refine (hrec.out _ (below_up (hb_1.out) hB4.out)).mono ?_
              rintro e W_call_2 ⟨rfl, hbc⟩
              have hb_2 := hid (hb_1.out.trans (hbc.mono hb_1.out.size))
              have hN2_g1 := hid (hN1_g1.out.below hbc hN1_g1.out.lt)
              clear hbc hb_1 hN1_g1
              refine hK'.out _ _ (by exact (hH4.out.below hb_2.out hH4.out.lt)) (fun hHeld => ?_)
              clear hK' K
              refine wpAnyH_take (i := 13) (v := .tuple #[.agg cr.toArray, .agg cs.toArray, .bool ok]) rfl (by kernel_rfl) (by kernel_rfl) (by kernel_rfl) (fun _ _ _ h => h) (yieldsIf_move _ rfl rfl rfl) hHeld ?_
              simp only [ly1, ly2, ly3, Act.put, ly5, ly6, ly7]
              refine wpAnyH_take (i := 14) (v := .agg cr.toArray) rfl (by kernel_rfl) (by kernel_rfl) (by kernel_rfl) (fun _ _ _ h => h) (.inl ⟨by kernel_rfl, fun w _ => by go_simp⟩) hHeld ?_
              simp only [ly1, ly2, ly3, Act.put, ly5, ly6, ly7]
              refine wpAnyH_take (i := 15) (v := .agg cs.toArray) rfl (by kernel_rfl) (by kernel_rfl) (by kernel_rfl) (fun _ _ _ h => h) (.inl ⟨by kernel_rfl, fun w _ => by go_simp⟩) hHeld ?_
              simp only [ly1, ly2, ly3, Act.put, ly5, ly6, ly7]
              refine wpAnyH_take (i := 16) (v := .bool ok) rfl (by kernel_rfl) (by kernel_rfl) (by kernel_rfl) (fun _ _ _ h => h) (.inl ⟨by kernel_rfl, fun w _ => by go_simp⟩) hHeld ?_
              simp only [ly1, ly2, ly3, Act.put, ly5, ly6, ly7]
              refine wpAnyH_ready (rs := [18]) (by kernel_rfl) (by simp) (AllReadyH.cons rfl (fun K hK => ?_) AllReadyH.nil)
              have hK' := hid hK
              clear hK
              rw [if_pos (by kernel_rfl)]
              simp only [ly1, ly2, ly3]
              obtain ⟨g2, hqg2⟩ : ∃ g, g = W_call_2.heap.size := ⟨_, rfl⟩
              refine wp_run (.pointer (some ⟨g2, 0, none⟩)) (W_call_2.alloc (.cells z32 28)) (by rw [hqg2]; kernel_rfl) ?_
              have hb_3 := hid (hb_2.out.alloc hb_2.out.size (.cells z32 28))
              have hN3_g2 := hid (show Holds (W_call_2.alloc (.cells z32 28)) g2 28 (z32).toList from by rw [hqg2]; exact Holds.new W_call_2 _ _)
              have hgeg2 : Wb.heap.size ≤ g2 := by rw [hqg2]; exact hb_2.out.size
              have hN3_g1 := hid (hN2_g1.out.alloc (.cells z32 28))
              have hne_g1_g2 : g1 ≠ g2 := by have := hN2_g1.out.lt; omega
              generalize hWg2 : W_call_2.alloc (.cells z32 28) = W_g2_3 at *
              clear hWg2 hqg2 hb_2 hN2_g1
              refine hK'.out _ _ (by exact (hH4.out.below hb_3.out hH4.out.lt)) (fun hHeld => ?_)
              clear hK' K
              refine wpAnyH_ready (rs := [19]) (by kernel_rfl) (by simp) (AllReadyH.cons rfl (fun K hK => ?_) AllReadyH.nil)
              have hK' := hid hK
              clear hK
              rw [if_pos (by kernel_rfl)]
              simp only [ly1, ly2, ly3]
              refine wp_store_mid _ _ _ rfl g1 0 cr.toArray rfl rfl (by exact hCr.out.there' hN3_g1.out rfl) (by exact hCr.out.size) (by exact hCr.out.one) ?_
              generalize hW5 : World.setCells _ _ _ _ = W5
              obtain ⟨hG5, hb5⟩ := hCr.out.set hN3_g1.out rfl hW5 hb_3.out (by omega)
              have hG5' := hid hG5
              have hF5 := hid (holds_far hN3_g2.out (Ne.symm hne_g1_g2) hW5)
              have hb5' := hid hb5
              have hH5 := hid (hH4.out.below hb5 hH4.out.lt)
              clear hW5 hG5 hb5 hb_3 hN3_g1 hN3_g2
              refine hK'.out _ _ (by exact hH5.out) (fun hHeld => ?_)
              clear hK' K
              refine wpAnyH_ready (rs := [20]) (by kernel_rfl) (by simp) (AllReadyH.cons rfl (fun K hK => ?_) AllReadyH.nil)
              have hK' := hid hK
              clear hK
              rw [if_pos (by kernel_rfl)]
              simp only [ly1, ly2, ly3]
              refine wp_store_mid _ _ _ rfl g2 0 cs.toArray rfl rfl (by exact hCs.out.there' hF5.out rfl) (by exact hCs.out.size) (by exact hCs.out.one) ?_
              generalize hW6 : World.setCells _ _ _ _ = W6
              obtain ⟨hF6, hb6⟩ := hCs.out.set hF5.out rfl hW6 hb5'.out (by omega)
              have hF6' := hid hF6
              have hG6 := hid (holds_far hG5'.out hne_g1_g2 hW6)
              have hT6 := hid (hT4.out.below hb6 hT4.out.lt)
              have hH6 := hid (hH4.out.below hb6 hH4.out.lt)
              have hR6 := hid (hR4.out.below hb6 hR4.out.lt)
              have hS6 := hid (hS4.out.below hb6 hS4.out.lt)
              have hB6 := hid (below_up hb6 hB4.out)
              clear hW6 hF6 hb6 hb5' hF5 hG5' hH5
              refine hK'.out _ _ (by exact hH6.out) (fun hHeld => ?_)
              clear hK' K
              refine wpAnyH_take (i := 21) (v := .bool ok) rfl (by kernel_rfl) (by kernel_rfl) (by kernel_rfl) (fun _ _ _ h => h) (yieldsIf_assign _ rfl rfl rfl) hHeld ?_
              simp only [ly1, ly2, ly3, Act.put, ly5, ly6, ly7]
              refine wpAnyH_done (by kernel_rfl) ?_ _
              clear hHeld
              have hdr : Below W6.heap.size W6 W6.drew := (Below.refl _ _).drew
              have hF7 := hid (hF6'.out.below hdr hF6'.out.lt)
              have hG7 := hid (hG6.out.below hdr hG6.out.lt)
              have hT7 := hid (hT6.out.below hdr hT6.out.lt)
              have hR7 := hid (hR6.out.below hdr hR6.out.lt)
              have hS7 := hid (hS6.out.below hdr hS6.out.lt)
              have hB7 := hid (below_up hdr hB6.out)
              clear hdr hF6' hG6 hT6 hH6 hR6 hS6 hB6
              go_wp2_with fail
              refine wp_region_held_drew (S := fun W => (Holds W g1 28 cr ∧ Holds W g2 28 cs) ∧ Holds W W2.heap.size 28 ct) (by kernel_rfl) (by exact ⟨⟨hG7.out, hF7.out⟩, hT7.out⟩) (fun hHeld => ?_)
              generalize W6.drew = Wc at *
              refine wpAnyH_take (i := 0) (v := .agg ct.toArray) rfl (by kernel_rfl) (by kernel_rfl) (by kernel_rfl) (fun _ _ _ h => h) (yieldsIf_load_mid (by kernel_rfl) _ _ rfl _ _ rfl _ _ (fun W h => h_all h.2) Try.underlying28 rfl (by exact hCt.out.size')) hHeld ?_
              simp only [ly1, ly2, ly3, Act.put, ly5, ly6, ly7]
              refine wpAnyH_take (i := 1) (v := .agg cr.toArray) rfl (by kernel_rfl) (by kernel_rfl) (by kernel_rfl) (fun _ _ _ h => h) (yieldsIf_load_mid (by kernel_rfl) _ _ rfl _ _ rfl _ _ (fun W h => h_all h.1.1) Try.underlying28 rfl (by exact hCr.out.size')) hHeld ?_
              simp only [ly1, ly2, ly3, Act.put, ly5, ly6, ly7]
              refine wpAnyH_take (i := 3) (v := .agg ct.toArray) rfl (by kernel_rfl) (by kernel_rfl) (by kernel_rfl) (fun _ _ _ h => h) (yieldsIf_load_mid (by kernel_rfl) _ _ rfl _ _ rfl _ _ (fun W h => h_all h.2) Try.underlying28 rfl (by exact hCt.out.size')) hHeld ?_
              simp only [ly1, ly2, ly3, Act.put, ly5, ly6, ly7]
              refine wpAnyH_take (i := 4) (v := .agg cs.toArray) rfl (by kernel_rfl) (by kernel_rfl) (by kernel_rfl) (fun _ _ _ h => h) (yieldsIf_load_mid (by kernel_rfl) _ _ rfl _ _ rfl _ _ (fun W h => h_all h.1.2) Try.underlying28 rfl (by exact hCs.out.size')) hHeld ?_
              simp only [ly1, ly2, ly3, Act.put, ly5, ly6, ly7]
              refine wpAnyH_take (i := 6) (v := .bool ok) rfl (by kernel_rfl) (by kernel_rfl) (by kernel_rfl) (fun _ _ _ h => h) (yieldsIf_move _ rfl rfl rfl) hHeld ?_
              simp only [ly1, ly2, ly3, Act.put, ly5, ly6, ly7]
              refine wpAnyH_ready (rs := [2]) (by kernel_rfl) (by simp) (AllReadyH.cons rfl (fun K hK => ?_) AllReadyH.nil)
              have hK' := hid hK
              clear hK
              rw [if_pos (by kernel_rfl)]
              simp only [ly1, ly2, ly3]
              go_simp
              refine (hro1.out _).mono ?_
              rintro e WV ⟨rfl, hb8⟩
              have hFV := hid (hF7.out.below hb8 hF7.out.lt)
              have hGV := hid (hG7.out.below hb8 hG7.out.lt)
              have hTV := hid (hT7.out.below hb8 hT7.out.lt)
              have hRV := hid (hR7.out.below hb8 hR7.out.lt)
              have hSV := hid (hS7.out.below hb8 hS7.out.lt)
              have hBV := hid (below_up hb8 hB7.out)
              clear hb8 hF7 hG7 hT7 hR7 hS7 hB7
              refine hK'.out _ _ (by exact ⟨⟨hGV.out, hFV.out⟩, hTV.out⟩) (fun hHeld => ?_)
              clear hK' K
              refine wpAnyH_ready (rs := [5]) (by kernel_rfl) (by simp) (AllReadyH.cons rfl (fun K hK => ?_) AllReadyH.nil)
              have hK' := hid hK
              clear hK
              rw [if_pos (by kernel_rfl)]
              simp only [ly1, ly2, ly3]
              go_simp
              refine (hro2.out _).mono ?_
              rintro e WY ⟨rfl, hb8⟩
              have hFY := hid (hFV.out.below hb8 hFV.out.lt)
              have hGY := hid (hGV.out.below hb8 hGV.out.lt)
              have hTY := hid (hTV.out.below hb8 hTV.out.lt)
              have hRY := hid (hRV.out.below hb8 hRV.out.lt)
              have hSY := hid (hSV.out.below hb8 hSV.out.lt)
              have hBY := hid (below_up hb8 hBV.out)
              clear hb8 hFV hGV hTV hRV hSV hBV
              refine hK'.out _ _ (by exact ⟨⟨hGY.out, hFY.out⟩, hTY.out⟩) (fun hHeld => ?_)
              clear hK' K
              refine wpAnyH_ready (rs := [7]) (by kernel_rfl) (by simp) (AllReadyH.cons rfl (fun K hK => ?_) AllReadyH.nil)
              have hK' := hid hK
              clear hK
              rw [if_pos (by kernel_rfl)]
              simp only [ly1, ly2, ly3]
              refine wp_store_mid _ _ _ rfl (w.heap.size + 1) 0 cn1.toArray rfl rfl (by exact hCn1.out.there' hRY.out rfl) (by exact hCn1.out.size) (by exact hCn1.out.one) ?_
              generalize hX1 : World.setCells _ _ _ _ = X1
              obtain ⟨hRx, hbx⟩ := hCn1.out.set hRY.out rfl hX1 hBY.out (by omega)
              have hRx1 := hid hRx
              have hbx1 := hid hbx
              have hSx1 := hid (holds_far hSY.out (by omega) hX1)
              have hFx1 := hid (holds_far hFY.out (by omega) hX1)
              have hGx1 := hid (holds_far hGY.out (by omega) hX1)
              have hTx1 := hid (holds_far hTY.out (by omega) hX1)
              clear hX1 hRx hbx
              refine hK'.out _ _ (by exact ⟨⟨hGx1.out, hFx1.out⟩, hTx1.out⟩) (fun hHeld => ?_)
              clear hK' K
              refine wpAnyH_ready (rs := [8]) (by kernel_rfl) (by simp) (AllReadyH.cons rfl (fun K hK => ?_) AllReadyH.nil)
              have hK' := hid hK
              clear hK
              rw [if_pos (by kernel_rfl)]
              simp only [ly1, ly2, ly3]
              refine wp_store_mid _ _ _ rfl (w.heap.size + 2) 0 cn2.toArray rfl rfl (by exact hCn2.out.there' hSx1.out rfl) (by exact hCn2.out.size) (by exact hCn2.out.one) ?_
              generalize hX2 : World.setCells _ _ _ _ = X2
              obtain ⟨hSx, hbx⟩ := hCn2.out.set hSx1.out rfl hX2 hbx1.out (by omega)
              have hSx2 := hid hSx
              have hbx2 := hid hbx
              have hRx2 := hid (holds_far hRx1.out (by omega) hX2)
              have hFx2 := hid (holds_far hFx1.out (by omega) hX2)
              have hGx2 := hid (holds_far hGx1.out (by omega) hX2)
              have hTx2 := hid (holds_far hTx1.out (by omega) hX2)
              clear hX2 hSx hbx
              refine hK'.out _ _ (by exact ⟨⟨hGx2.out, hFx2.out⟩, hTx2.out⟩) (fun hHeld => ?_)
              clear hK' K
              refine wpAnyH_take (i := 9) (v := .bool ok) rfl (by kernel_rfl) (by kernel_rfl) (by kernel_rfl) (fun _ _ _ h => h) (yieldsIf_assign _ rfl rfl rfl) hHeld ?_
              simp only [ly1, ly2, ly3, Act.put, ly5, ly6, ly7]
              refine wpAnyH_done (by kernel_rfl) ?_ _
              clear hHeld
              go_wp2_with fail
              exact bodyPost_ret (results_cct rfl _ _ (w.heap.size + 1) (w.heap.size + 2) 28 _ _ _ rfl rfl hRx2.out hSx2.out (.bool ok) rfl Try.underlying28 rfl (by exact hCn1.out.size) (by exact hCn2.out.size)) rfl ⟨rfl, hbx2.out⟩

            · skip
              have hK' := hid hK
              clear hK
              rw [if_pos (by kernel_rfl)]
              simp only [ly1, ly2, ly3]
              obtain ⟨g2, hqg2⟩ : ∃ g, g = W_g1_1.heap.size := ⟨_, rfl⟩
              refine wp_run (.pointer (some ⟨g2, 0, none⟩)) (W_g1_1.alloc (.cells z32 28)) (by rw [hqg2]; kernel_rfl) ?_
              have hb_2 := hid (hb_1.out.alloc hb_1.out.size (.cells z32 28))
              have hN2_g2 := hid (show Holds (W_g1_1.alloc (.cells z32 28)) g2 28 (z32).toList from by rw [hqg2]; exact Holds.new W_g1_1 _ _)
              have hgeg2 : Wb.heap.size ≤ g2 := by rw [hqg2]; exact hb_1.out.size
              have hN2_g1 := hid (hN1_g1.out.alloc (.cells z32 28))
              have hne_g1_g2 : g1 ≠ g2 := by have := hN1_g1.out.lt; omega
              generalize hWg2 : W_g1_1.alloc (.cells z32 28) = W_g2_2 at *
              clear hWg2 hqg2 hb_1 hN1_g1
              refine hK'.out _ _ (by exact (hH4.out.below hb_2.out hH4.out.lt)) (fun hHeld => ?_)
              clear hK' K
              refine wpAnyH_ready (rs := [12]) (by kernel_rfl) (by simp) (AllReadyH.cons rfl (fun K hK => ?_) AllReadyH.nil)
              have hK' := hid hK
              clear hK
              rw [if_pos (by kernel_rfl)]
              simp only [ly1, ly2, ly3]
              go_simp
              refine (hrec.out _ (below_up (hb_2.out) hB4.out)).mono ?_
              rintro e W_call_3 ⟨rfl, hbc⟩
              have hb_3 := hid (hb_2.out.trans (hbc.mono hb_2.out.size))
              have hN3_g1 := hid (hN2_g1.out.below hbc hN2_g1.out.lt)
              have hN3_g2 := hid (hN2_g2.out.below hbc hN2_g2.out.lt)
              clear hbc hb_2 hN2_g1 hN2_g2
              refine hK'.out _ _ (by exact (hH4.out.below hb_3.out hH4.out.lt)) (fun hHeld => ?_)
              clear hK' K
              refine wpAnyH_take (i := 13) (v := .tuple #[.agg cr.toArray, .agg cs.toArray, .bool ok]) rfl (by kernel_rfl) (by kernel_rfl) (by kernel_rfl) (fun _ _ _ h => h) (yieldsIf_move _ rfl rfl rfl) hHeld ?_
              simp only [ly1, ly2, ly3, Act.put, ly5, ly6, ly7]
              refine wpAnyH_take (i := 14) (v := .agg cr.toArray) rfl (by kernel_rfl) (by kernel_rfl) (by kernel_rfl) (fun _ _ _ h => h) (.inl ⟨by kernel_rfl, fun w _ => by go_simp⟩) hHeld ?_
              simp only [ly1, ly2, ly3, Act.put, ly5, ly6, ly7]
              refine wpAnyH_take (i := 15) (v := .agg cs.toArray) rfl (by kernel_rfl) (by kernel_rfl) (by kernel_rfl) (fun _ _ _ h => h) (.inl ⟨by kernel_rfl, fun w _ => by go_simp⟩) hHeld ?_
              simp only [ly1, ly2, ly3, Act.put, ly5, ly6, ly7]
              refine wpAnyH_take (i := 16) (v := .bool ok) rfl (by kernel_rfl) (by kernel_rfl) (by kernel_rfl) (fun _ _ _ h => h) (.inl ⟨by kernel_rfl, fun w _ => by go_simp⟩) hHeld ?_
              simp only [ly1, ly2, ly3, Act.put, ly5, ly6, ly7]
              refine wpAnyH_ready (rs := [19]) (by kernel_rfl) (by simp) (AllReadyH.cons rfl (fun K hK => ?_) AllReadyH.nil)
              have hK' := hid hK
              clear hK
              rw [if_pos (by kernel_rfl)]
              simp only [ly1, ly2, ly3]
              refine wp_store_mid _ _ _ rfl g1 0 cr.toArray rfl rfl (by exact hCr.out.there' hN3_g1.out rfl) (by exact hCr.out.size) (by exact hCr.out.one) ?_
              generalize hW5 : World.setCells _ _ _ _ = W5
              obtain ⟨hG5, hb5⟩ := hCr.out.set hN3_g1.out rfl hW5 hb_3.out (by omega)
              have hG5' := hid hG5
              have hF5 := hid (holds_far hN3_g2.out (Ne.symm hne_g1_g2) hW5)
              have hb5' := hid hb5
              have hH5 := hid (hH4.out.below hb5 hH4.out.lt)
              clear hW5 hG5 hb5 hb_3 hN3_g1 hN3_g2
              refine hK'.out _ _ (by exact hH5.out) (fun hHeld => ?_)
              clear hK' K
              refine wpAnyH_ready (rs := [20]) (by kernel_rfl) (by simp) (AllReadyH.cons rfl (fun K hK => ?_) AllReadyH.nil)
              have hK' := hid hK
              clear hK
              rw [if_pos (by kernel_rfl)]
              simp only [ly1, ly2, ly3]
              refine wp_store_mid _ _ _ rfl g2 0 cs.toArray rfl rfl (by exact hCs.out.there' hF5.out rfl) (by exact hCs.out.size) (by exact hCs.out.one) ?_
              generalize hW6 : World.setCells _ _ _ _ = W6
              obtain ⟨hF6, hb6⟩ := hCs.out.set hF5.out rfl hW6 hb5'.out (by omega)
              have hF6' := hid hF6
              have hG6 := hid (holds_far hG5'.out hne_g1_g2 hW6)
              have hT6 := hid (hT4.out.below hb6 hT4.out.lt)
              have hH6 := hid (hH4.out.below hb6 hH4.out.lt)
              have hR6 := hid (hR4.out.below hb6 hR4.out.lt)
              have hS6 := hid (hS4.out.below hb6 hS4.out.lt)
              have hB6 := hid (below_up hb6 hB4.out)
              clear hW6 hF6 hb6 hb5' hF5 hG5' hH5
              refine hK'.out _ _ (by exact hH6.out) (fun hHeld => ?_)
              clear hK' K
              refine wpAnyH_take (i := 21) (v := .bool ok) rfl (by kernel_rfl) (by kernel_rfl) (by kernel_rfl) (fun _ _ _ h => h) (yieldsIf_assign _ rfl rfl rfl) hHeld ?_
              simp only [ly1, ly2, ly3, Act.put, ly5, ly6, ly7]
              refine wpAnyH_done (by kernel_rfl) ?_ _
              clear hHeld
              have hdr : Below W6.heap.size W6 W6.drew := (Below.refl _ _).drew
              have hF7 := hid (hF6'.out.below hdr hF6'.out.lt)
              have hG7 := hid (hG6.out.below hdr hG6.out.lt)
              have hT7 := hid (hT6.out.below hdr hT6.out.lt)
              have hR7 := hid (hR6.out.below hdr hR6.out.lt)
              have hS7 := hid (hS6.out.below hdr hS6.out.lt)
              have hB7 := hid (below_up hdr hB6.out)
              clear hdr hF6' hG6 hT6 hH6 hR6 hS6 hB6
              go_wp2_with fail
              refine wp_region_held_drew (S := fun W => (Holds W g1 28 cr ∧ Holds W g2 28 cs) ∧ Holds W W2.heap.size 28 ct) (by kernel_rfl) (by exact ⟨⟨hG7.out, hF7.out⟩, hT7.out⟩) (fun hHeld => ?_)
              generalize W6.drew = Wc at *
              refine wpAnyH_take (i := 0) (v := .agg ct.toArray) rfl (by kernel_rfl) (by kernel_rfl) (by kernel_rfl) (fun _ _ _ h => h) (yieldsIf_load_mid (by kernel_rfl) _ _ rfl _ _ rfl _ _ (fun W h => h_all h.2) Try.underlying28 rfl (by exact hCt.out.size')) hHeld ?_
              simp only [ly1, ly2, ly3, Act.put, ly5, ly6, ly7]
              refine wpAnyH_take (i := 1) (v := .agg cr.toArray) rfl (by kernel_rfl) (by kernel_rfl) (by kernel_rfl) (fun _ _ _ h => h) (yieldsIf_load_mid (by kernel_rfl) _ _ rfl _ _ rfl _ _ (fun W h => h_all h.1.1) Try.underlying28 rfl (by exact hCr.out.size')) hHeld ?_
              simp only [ly1, ly2, ly3, Act.put, ly5, ly6, ly7]
              refine wpAnyH_take (i := 3) (v := .agg ct.toArray) rfl (by kernel_rfl) (by kernel_rfl) (by kernel_rfl) (fun _ _ _ h => h) (yieldsIf_load_mid (by kernel_rfl) _ _ rfl _ _ rfl _ _ (fun W h => h_all h.2) Try.underlying28 rfl (by exact hCt.out.size')) hHeld ?_
              simp only [ly1, ly2, ly3, Act.put, ly5, ly6, ly7]
              refine wpAnyH_take (i := 4) (v := .agg cs.toArray) rfl (by kernel_rfl) (by kernel_rfl) (by kernel_rfl) (fun _ _ _ h => h) (yieldsIf_load_mid (by kernel_rfl) _ _ rfl _ _ rfl _ _ (fun W h => h_all h.1.2) Try.underlying28 rfl (by exact hCs.out.size')) hHeld ?_
              simp only [ly1, ly2, ly3, Act.put, ly5, ly6, ly7]
              refine wpAnyH_take (i := 6) (v := .bool ok) rfl (by kernel_rfl) (by kernel_rfl) (by kernel_rfl) (fun _ _ _ h => h) (yieldsIf_move _ rfl rfl rfl) hHeld ?_
              simp only [ly1, ly2, ly3, Act.put, ly5, ly6, ly7]
              refine wpAnyH_ready (rs := [2]) (by kernel_rfl) (by simp) (AllReadyH.cons rfl (fun K hK => ?_) AllReadyH.nil)
              have hK' := hid hK
              clear hK
              rw [if_pos (by kernel_rfl)]
              simp only [ly1, ly2, ly3]
              go_simp
              refine (hro1.out _).mono ?_
              rintro e WV ⟨rfl, hb8⟩
              have hFV := hid (hF7.out.below hb8 hF7.out.lt)
              have hGV := hid (hG7.out.below hb8 hG7.out.lt)
              have hTV := hid (hT7.out.below hb8 hT7.out.lt)
              have hRV := hid (hR7.out.below hb8 hR7.out.lt)
              have hSV := hid (hS7.out.below hb8 hS7.out.lt)
              have hBV := hid (below_up hb8 hB7.out)
              clear hb8 hF7 hG7 hT7 hR7 hS7 hB7
              refine hK'.out _ _ (by exact ⟨⟨hGV.out, hFV.out⟩, hTV.out⟩) (fun hHeld => ?_)
              clear hK' K
              refine wpAnyH_ready (rs := [5]) (by kernel_rfl) (by simp) (AllReadyH.cons rfl (fun K hK => ?_) AllReadyH.nil)
              have hK' := hid hK
              clear hK
              rw [if_pos (by kernel_rfl)]
              simp only [ly1, ly2, ly3]
              go_simp
              refine (hro2.out _).mono ?_
              rintro e WY ⟨rfl, hb8⟩
              have hFY := hid (hFV.out.below hb8 hFV.out.lt)
              have hGY := hid (hGV.out.below hb8 hGV.out.lt)
              have hTY := hid (hTV.out.below hb8 hTV.out.lt)
              have hRY := hid (hRV.out.below hb8 hRV.out.lt)
              have hSY := hid (hSV.out.below hb8 hSV.out.lt)
              have hBY := hid (below_up hb8 hBV.out)
              clear hb8 hFV hGV hTV hRV hSV hBV
              refine hK'.out _ _ (by exact ⟨⟨hGY.out, hFY.out⟩, hTY.out⟩) (fun hHeld => ?_)
              clear hK' K
              refine wpAnyH_ready (rs := [7]) (by kernel_rfl) (by simp) (AllReadyH.cons rfl (fun K hK => ?_) AllReadyH.nil)
              have hK' := hid hK
              clear hK
              rw [if_pos (by kernel_rfl)]
              simp only [ly1, ly2, ly3]
              refine wp_store_mid _ _ _ rfl (w.heap.size + 1) 0 cn1.toArray rfl rfl (by exact hCn1.out.there' hRY.out rfl) (by exact hCn1.out.size) (by exact hCn1.out.one) ?_
              generalize hX1 : World.setCells _ _ _ _ = X1
              obtain ⟨hRx, hbx⟩ := hCn1.out.set hRY.out rfl hX1 hBY.out (by omega)
              have hRx1 := hid hRx
              have hbx1 := hid hbx
              have hSx1 := hid (holds_far hSY.out (by omega) hX1)
              have hFx1 := hid (holds_far hFY.out (by omega) hX1)
              have hGx1 := hid (holds_far hGY.out (by omega) hX1)
              have hTx1 := hid (holds_far hTY.out (by omega) hX1)
              clear hX1 hRx hbx
              refine hK'.out _ _ (by exact ⟨⟨hGx1.out, hFx1.out⟩, hTx1.out⟩) (fun hHeld => ?_)
              clear hK' K
              refine wpAnyH_ready (rs := [8]) (by kernel_rfl) (by simp) (AllReadyH.cons rfl (fun K hK => ?_) AllReadyH.nil)
              have hK' := hid hK
              clear hK
              rw [if_pos (by kernel_rfl)]
              simp only [ly1, ly2, ly3]
              refine wp_store_mid _ _ _ rfl (w.heap.size + 2) 0 cn2.toArray rfl rfl (by exact hCn2.out.there' hSx1.out rfl) (by exact hCn2.out.size) (by exact hCn2.out.one) ?_
              generalize hX2 : World.setCells _ _ _ _ = X2
              obtain ⟨hSx, hbx⟩ := hCn2.out.set hSx1.out rfl hX2 hbx1.out (by omega)
              have hSx2 := hid hSx
              have hbx2 := hid hbx
              have hRx2 := hid (holds_far hRx1.out (by omega) hX2)
              have hFx2 := hid (holds_far hFx1.out (by omega) hX2)
              have hGx2 := hid (holds_far hGx1.out (by omega) hX2)
              have hTx2 := hid (holds_far hTx1.out (by omega) hX2)
              clear hX2 hSx hbx
              refine hK'.out _ _ (by exact ⟨⟨hGx2.out, hFx2.out⟩, hTx2.out⟩) (fun hHeld => ?_)
              clear hK' K
              refine wpAnyH_take (i := 9) (v := .bool ok) rfl (by kernel_rfl) (by kernel_rfl) (by kernel_rfl) (fun _ _ _ h => h) (yieldsIf_assign _ rfl rfl rfl) hHeld ?_
              simp only [ly1, ly2, ly3, Act.put, ly5, ly6, ly7]
              refine wpAnyH_done (by kernel_rfl) ?_ _
              clear hHeld
              go_wp2_with fail
              exact bodyPost_ret (results_cct rfl _ _ (w.heap.size + 1) (w.heap.size + 2) 28 _ _ _ rfl rfl hRx2.out hSx2.out (.bool ok) rfl Try.underlying28 rfl (by exact hCn1.out.size) (by exact hCn2.out.size)) rfl ⟨rfl, hbx2.out⟩

          · skip
            have hK' := hid hK
            clear hK
            rw [if_pos (by kernel_rfl)]
            simp only [ly1, ly2, ly3]
            obtain ⟨g2, hqg2⟩ : ∃ g, g = Wb.heap.size := ⟨_, rfl⟩
            refine wp_run (.pointer (some ⟨g2, 0, none⟩)) (Wb.alloc (.cells z32 28)) (by rw [hqg2]; kernel_rfl) ?_
            have hb_1 := hid (hb_0.out.alloc hb_0.out.size (.cells z32 28))
            have hN1_g2 := hid (show Holds (Wb.alloc (.cells z32 28)) g2 28 (z32).toList from by rw [hqg2]; exact Holds.new Wb _ _)
            have hgeg2 : Wb.heap.size ≤ g2 := by rw [hqg2]; exact hb_0.out.size
            generalize hWg2 : Wb.alloc (.cells z32 28) = W_g2_1 at *
            clear hWg2 hqg2 hb_0
            refine hK'.out _ _ (by exact (hH4.out.below hb_1.out hH4.out.lt)) (fun hHeld => ?_)
            clear hK' K
            refine wpAnyH_ready (rs := [12, 17]) (by kernel_rfl) (by simp) (AllReadyH.cons rfl (fun K hK => ?_) (AllReadyH.cons rfl (fun K hK => ?_) AllReadyH.nil))
            · skip
              have hK' := hid hK
              clear hK
              rw [if_pos (by kernel_rfl)]
              simp only [ly1, ly2, ly3]
              go_simp
              refine (hrec.out _ (below_up (hb_1.out) hB4.out)).mono ?_
              rintro e W_call_2 ⟨rfl, hbc⟩
              have hb_2 := hid (hb_1.out.trans (hbc.mono hb_1.out.size))
              have hN2_g2 := hid (hN1_g2.out.below hbc hN1_g2.out.lt)
              clear hbc hb_1 hN1_g2
              refine hK'.out _ _ (by exact (hH4.out.below hb_2.out hH4.out.lt)) (fun hHeld => ?_)
              clear hK' K
              refine wpAnyH_take (i := 13) (v := .tuple #[.agg cr.toArray, .agg cs.toArray, .bool ok]) rfl (by kernel_rfl) (by kernel_rfl) (by kernel_rfl) (fun _ _ _ h => h) (yieldsIf_move _ rfl rfl rfl) hHeld ?_
              simp only [ly1, ly2, ly3, Act.put, ly5, ly6, ly7]
              refine wpAnyH_take (i := 14) (v := .agg cr.toArray) rfl (by kernel_rfl) (by kernel_rfl) (by kernel_rfl) (fun _ _ _ h => h) (.inl ⟨by kernel_rfl, fun w _ => by go_simp⟩) hHeld ?_
              simp only [ly1, ly2, ly3, Act.put, ly5, ly6, ly7]
              refine wpAnyH_take (i := 15) (v := .agg cs.toArray) rfl (by kernel_rfl) (by kernel_rfl) (by kernel_rfl) (fun _ _ _ h => h) (.inl ⟨by kernel_rfl, fun w _ => by go_simp⟩) hHeld ?_
              simp only [ly1, ly2, ly3, Act.put, ly5, ly6, ly7]
              refine wpAnyH_take (i := 16) (v := .bool ok) rfl (by kernel_rfl) (by kernel_rfl) (by kernel_rfl) (fun _ _ _ h => h) (.inl ⟨by kernel_rfl, fun w _ => by go_simp⟩) hHeld ?_
              simp only [ly1, ly2, ly3, Act.put, ly5, ly6, ly7]
              refine wpAnyH_ready (rs := [17]) (by kernel_rfl) (by simp) (AllReadyH.cons rfl (fun K hK => ?_) AllReadyH.nil)
              have hK' := hid hK
              clear hK
              rw [if_pos (by kernel_rfl)]
              simp only [ly1, ly2, ly3]
              obtain ⟨g1, hqg1⟩ : ∃ g, g = W_call_2.heap.size := ⟨_, rfl⟩
              refine wp_run (.pointer (some ⟨g1, 0, none⟩)) (W_call_2.alloc (.cells z32 28)) (by rw [hqg1]; kernel_rfl) ?_
              have hb_3 := hid (hb_2.out.alloc hb_2.out.size (.cells z32 28))
              have hN3_g1 := hid (show Holds (W_call_2.alloc (.cells z32 28)) g1 28 (z32).toList from by rw [hqg1]; exact Holds.new W_call_2 _ _)
              have hgeg1 : Wb.heap.size ≤ g1 := by rw [hqg1]; exact hb_2.out.size
              have hN3_g2 := hid (hN2_g2.out.alloc (.cells z32 28))
              have hne_g1_g2 : g1 ≠ g2 := by have := hN2_g2.out.lt; omega
              generalize hWg1 : W_call_2.alloc (.cells z32 28) = W_g1_3 at *
              clear hWg1 hqg1 hb_2 hN2_g2
              refine hK'.out _ _ (by exact (hH4.out.below hb_3.out hH4.out.lt)) (fun hHeld => ?_)
              clear hK' K
              refine wpAnyH_ready (rs := [19]) (by kernel_rfl) (by simp) (AllReadyH.cons rfl (fun K hK => ?_) AllReadyH.nil)
              have hK' := hid hK
              clear hK
              rw [if_pos (by kernel_rfl)]
              simp only [ly1, ly2, ly3]
              refine wp_store_mid _ _ _ rfl g1 0 cr.toArray rfl rfl (by exact hCr.out.there' hN3_g1.out rfl) (by exact hCr.out.size) (by exact hCr.out.one) ?_
              generalize hW5 : World.setCells _ _ _ _ = W5
              obtain ⟨hG5, hb5⟩ := hCr.out.set hN3_g1.out rfl hW5 hb_3.out (by omega)
              have hG5' := hid hG5
              have hF5 := hid (holds_far hN3_g2.out (Ne.symm hne_g1_g2) hW5)
              have hb5' := hid hb5
              have hH5 := hid (hH4.out.below hb5 hH4.out.lt)
              clear hW5 hG5 hb5 hb_3 hN3_g1 hN3_g2
              refine hK'.out _ _ (by exact hH5.out) (fun hHeld => ?_)
              clear hK' K
              refine wpAnyH_ready (rs := [20]) (by kernel_rfl) (by simp) (AllReadyH.cons rfl (fun K hK => ?_) AllReadyH.nil)
              have hK' := hid hK
              clear hK
              rw [if_pos (by kernel_rfl)]
              simp only [ly1, ly2, ly3]
              refine wp_store_mid _ _ _ rfl g2 0 cs.toArray rfl rfl (by exact hCs.out.there' hF5.out rfl) (by exact hCs.out.size) (by exact hCs.out.one) ?_
              generalize hW6 : World.setCells _ _ _ _ = W6
              obtain ⟨hF6, hb6⟩ := hCs.out.set hF5.out rfl hW6 hb5'.out (by omega)
              have hF6' := hid hF6
              have hG6 := hid (holds_far hG5'.out hne_g1_g2 hW6)
              have hT6 := hid (hT4.out.below hb6 hT4.out.lt)
              have hH6 := hid (hH4.out.below hb6 hH4.out.lt)
              have hR6 := hid (hR4.out.below hb6 hR4.out.lt)
              have hS6 := hid (hS4.out.below hb6 hS4.out.lt)
              have hB6 := hid (below_up hb6 hB4.out)
              clear hW6 hF6 hb6 hb5' hF5 hG5' hH5
              refine hK'.out _ _ (by exact hH6.out) (fun hHeld => ?_)
              clear hK' K
              refine wpAnyH_take (i := 21) (v := .bool ok) rfl (by kernel_rfl) (by kernel_rfl) (by kernel_rfl) (fun _ _ _ h => h) (yieldsIf_assign _ rfl rfl rfl) hHeld ?_
              simp only [ly1, ly2, ly3, Act.put, ly5, ly6, ly7]
              refine wpAnyH_done (by kernel_rfl) ?_ _
              clear hHeld
              have hdr : Below W6.heap.size W6 W6.drew := (Below.refl _ _).drew
              have hF7 := hid (hF6'.out.below hdr hF6'.out.lt)
              have hG7 := hid (hG6.out.below hdr hG6.out.lt)
              have hT7 := hid (hT6.out.below hdr hT6.out.lt)
              have hR7 := hid (hR6.out.below hdr hR6.out.lt)
              have hS7 := hid (hS6.out.below hdr hS6.out.lt)
              have hB7 := hid (below_up hdr hB6.out)
              clear hdr hF6' hG6 hT6 hH6 hR6 hS6 hB6
              go_wp2_with fail
              refine wp_region_held_drew (S := fun W => (Holds W g1 28 cr ∧ Holds W g2 28 cs) ∧ Holds W W2.heap.size 28 ct) (by kernel_rfl) (by exact ⟨⟨hG7.out, hF7.out⟩, hT7.out⟩) (fun hHeld => ?_)
              generalize W6.drew = Wc at *
              refine wpAnyH_take (i := 0) (v := .agg ct.toArray) rfl (by kernel_rfl) (by kernel_rfl) (by kernel_rfl) (fun _ _ _ h => h) (yieldsIf_load_mid (by kernel_rfl) _ _ rfl _ _ rfl _ _ (fun W h => h_all h.2) Try.underlying28 rfl (by exact hCt.out.size')) hHeld ?_
              simp only [ly1, ly2, ly3, Act.put, ly5, ly6, ly7]
              refine wpAnyH_take (i := 1) (v := .agg cr.toArray) rfl (by kernel_rfl) (by kernel_rfl) (by kernel_rfl) (fun _ _ _ h => h) (yieldsIf_load_mid (by kernel_rfl) _ _ rfl _ _ rfl _ _ (fun W h => h_all h.1.1) Try.underlying28 rfl (by exact hCr.out.size')) hHeld ?_
              simp only [ly1, ly2, ly3, Act.put, ly5, ly6, ly7]
              refine wpAnyH_take (i := 3) (v := .agg ct.toArray) rfl (by kernel_rfl) (by kernel_rfl) (by kernel_rfl) (fun _ _ _ h => h) (yieldsIf_load_mid (by kernel_rfl) _ _ rfl _ _ rfl _ _ (fun W h => h_all h.2) Try.underlying28 rfl (by exact hCt.out.size')) hHeld ?_
              simp only [ly1, ly2, ly3, Act.put, ly5, ly6, ly7]
              refine wpAnyH_take (i := 4) (v := .agg cs.toArray) rfl (by kernel_rfl) (by kernel_rfl) (by kernel_rfl) (fun _ _ _ h => h) (yieldsIf_load_mid (by kernel_rfl) _ _ rfl _ _ rfl _ _ (fun W h => h_all h.1.2) Try.underlying28 rfl (by exact hCs.out.size')) hHeld ?_
              simp only [ly1, ly2, ly3, Act.put, ly5, ly6, ly7]
              refine wpAnyH_take (i := 6) (v := .bool ok) rfl (by kernel_rfl) (by kernel_rfl) (by kernel_rfl) (fun _ _ _ h => h) (yieldsIf_move _ rfl rfl rfl) hHeld ?_
              simp only [ly1, ly2, ly3, Act.put, ly5, ly6, ly7]
              refine wpAnyH_ready (rs := [2]) (by kernel_rfl) (by simp) (AllReadyH.cons rfl (fun K hK => ?_) AllReadyH.nil)
              have hK' := hid hK
              clear hK
              rw [if_pos (by kernel_rfl)]
              simp only [ly1, ly2, ly3]
              go_simp
              refine (hro1.out _).mono ?_
              rintro e WV ⟨rfl, hb8⟩
              have hFV := hid (hF7.out.below hb8 hF7.out.lt)
              have hGV := hid (hG7.out.below hb8 hG7.out.lt)
              have hTV := hid (hT7.out.below hb8 hT7.out.lt)
              have hRV := hid (hR7.out.below hb8 hR7.out.lt)
              have hSV := hid (hS7.out.below hb8 hS7.out.lt)
              have hBV := hid (below_up hb8 hB7.out)
              clear hb8 hF7 hG7 hT7 hR7 hS7 hB7
              refine hK'.out _ _ (by exact ⟨⟨hGV.out, hFV.out⟩, hTV.out⟩) (fun hHeld => ?_)
              clear hK' K
              refine wpAnyH_ready (rs := [5]) (by kernel_rfl) (by simp) (AllReadyH.cons rfl (fun K hK => ?_) AllReadyH.nil)
              have hK' := hid hK
              clear hK
              rw [if_pos (by kernel_rfl)]
              simp only [ly1, ly2, ly3]
              go_simp
              refine (hro2.out _).mono ?_
              rintro e WY ⟨rfl, hb8⟩
              have hFY := hid (hFV.out.below hb8 hFV.out.lt)
              have hGY := hid (hGV.out.below hb8 hGV.out.lt)
              have hTY := hid (hTV.out.below hb8 hTV.out.lt)
              have hRY := hid (hRV.out.below hb8 hRV.out.lt)
              have hSY := hid (hSV.out.below hb8 hSV.out.lt)
              have hBY := hid (below_up hb8 hBV.out)
              clear hb8 hFV hGV hTV hRV hSV hBV
              refine hK'.out _ _ (by exact ⟨⟨hGY.out, hFY.out⟩, hTY.out⟩) (fun hHeld => ?_)
              clear hK' K
              refine wpAnyH_ready (rs := [7]) (by kernel_rfl) (by simp) (AllReadyH.cons rfl (fun K hK => ?_) AllReadyH.nil)
              have hK' := hid hK
              clear hK
              rw [if_pos (by kernel_rfl)]
              simp only [ly1, ly2, ly3]
              refine wp_store_mid _ _ _ rfl (w.heap.size + 1) 0 cn1.toArray rfl rfl (by exact hCn1.out.there' hRY.out rfl) (by exact hCn1.out.size) (by exact hCn1.out.one) ?_
              generalize hX1 : World.setCells _ _ _ _ = X1
              obtain ⟨hRx, hbx⟩ := hCn1.out.set hRY.out rfl hX1 hBY.out (by omega)
              have hRx1 := hid hRx
              have hbx1 := hid hbx
              have hSx1 := hid (holds_far hSY.out (by omega) hX1)
              have hFx1 := hid (holds_far hFY.out (by omega) hX1)
              have hGx1 := hid (holds_far hGY.out (by omega) hX1)
              have hTx1 := hid (holds_far hTY.out (by omega) hX1)
              clear hX1 hRx hbx
              refine hK'.out _ _ (by exact ⟨⟨hGx1.out, hFx1.out⟩, hTx1.out⟩) (fun hHeld => ?_)
              clear hK' K
              refine wpAnyH_ready (rs := [8]) (by kernel_rfl) (by simp) (AllReadyH.cons rfl (fun K hK => ?_) AllReadyH.nil)
              have hK' := hid hK
              clear hK
              rw [if_pos (by kernel_rfl)]
              simp only [ly1, ly2, ly3]
              refine wp_store_mid _ _ _ rfl (w.heap.size + 2) 0 cn2.toArray rfl rfl (by exact hCn2.out.there' hSx1.out rfl) (by exact hCn2.out.size) (by exact hCn2.out.one) ?_
              generalize hX2 : World.setCells _ _ _ _ = X2
              obtain ⟨hSx, hbx⟩ := hCn2.out.set hSx1.out rfl hX2 hbx1.out (by omega)
              have hSx2 := hid hSx
              have hbx2 := hid hbx
              have hRx2 := hid (holds_far hRx1.out (by omega) hX2)
              have hFx2 := hid (holds_far hFx1.out (by omega) hX2)
              have hGx2 := hid (holds_far hGx1.out (by omega) hX2)
              have hTx2 := hid (holds_far hTx1.out (by omega) hX2)
              clear hX2 hSx hbx
              refine hK'.out _ _ (by exact ⟨⟨hGx2.out, hFx2.out⟩, hTx2.out⟩) (fun hHeld => ?_)
              clear hK' K
              refine wpAnyH_take (i := 9) (v := .bool ok) rfl (by kernel_rfl) (by kernel_rfl) (by kernel_rfl) (fun _ _ _ h => h) (yieldsIf_assign _ rfl rfl rfl) hHeld ?_
              simp only [ly1, ly2, ly3, Act.put, ly5, ly6, ly7]
              refine wpAnyH_done (by kernel_rfl) ?_ _
              clear hHeld
              go_wp2_with fail
              exact bodyPost_ret (results_cct rfl _ _ (w.heap.size + 1) (w.heap.size + 2) 28 _ _ _ rfl rfl hRx2.out hSx2.out (.bool ok) rfl Try.underlying28 rfl (by exact hCn1.out.size) (by exact hCn2.out.size)) rfl ⟨rfl, hbx2.out⟩

            · skip
              have hK' := hid hK
              clear hK
              rw [if_pos (by kernel_rfl)]
              simp only [ly1, ly2, ly3]
              obtain ⟨g1, hqg1⟩ : ∃ g, g = W_g2_1.heap.size := ⟨_, rfl⟩
              refine wp_run (.pointer (some ⟨g1, 0, none⟩)) (W_g2_1.alloc (.cells z32 28)) (by rw [hqg1]; kernel_rfl) ?_
              have hb_2 := hid (hb_1.out.alloc hb_1.out.size (.cells z32 28))
              have hN2_g1 := hid (show Holds (W_g2_1.alloc (.cells z32 28)) g1 28 (z32).toList from by rw [hqg1]; exact Holds.new W_g2_1 _ _)
              have hgeg1 : Wb.heap.size ≤ g1 := by rw [hqg1]; exact hb_1.out.size
              have hN2_g2 := hid (hN1_g2.out.alloc (.cells z32 28))
              have hne_g1_g2 : g1 ≠ g2 := by have := hN1_g2.out.lt; omega
              generalize hWg1 : W_g2_1.alloc (.cells z32 28) = W_g1_2 at *
              clear hWg1 hqg1 hb_1 hN1_g2
              refine hK'.out _ _ (by exact (hH4.out.below hb_2.out hH4.out.lt)) (fun hHeld => ?_)
              clear hK' K
              refine wpAnyH_ready (rs := [12]) (by kernel_rfl) (by simp) (AllReadyH.cons rfl (fun K hK => ?_) AllReadyH.nil)
              have hK' := hid hK
              clear hK
              rw [if_pos (by kernel_rfl)]
              simp only [ly1, ly2, ly3]
              go_simp
              refine (hrec.out _ (below_up (hb_2.out) hB4.out)).mono ?_
              rintro e W_call_3 ⟨rfl, hbc⟩
              have hb_3 := hid (hb_2.out.trans (hbc.mono hb_2.out.size))
              have hN3_g2 := hid (hN2_g2.out.below hbc hN2_g2.out.lt)
              have hN3_g1 := hid (hN2_g1.out.below hbc hN2_g1.out.lt)
              clear hbc hb_2 hN2_g2 hN2_g1
              refine hK'.out _ _ (by exact (hH4.out.below hb_3.out hH4.out.lt)) (fun hHeld => ?_)
              clear hK' K
              refine wpAnyH_take (i := 13) (v := .tuple #[.agg cr.toArray, .agg cs.toArray, .bool ok]) rfl (by kernel_rfl) (by kernel_rfl) (by kernel_rfl) (fun _ _ _ h => h) (yieldsIf_move _ rfl rfl rfl) hHeld ?_
              simp only [ly1, ly2, ly3, Act.put, ly5, ly6, ly7]
              refine wpAnyH_take (i := 14) (v := .agg cr.toArray) rfl (by kernel_rfl) (by kernel_rfl) (by kernel_rfl) (fun _ _ _ h => h) (.inl ⟨by kernel_rfl, fun w _ => by go_simp⟩) hHeld ?_
              simp only [ly1, ly2, ly3, Act.put, ly5, ly6, ly7]
              refine wpAnyH_take (i := 15) (v := .agg cs.toArray) rfl (by kernel_rfl) (by kernel_rfl) (by kernel_rfl) (fun _ _ _ h => h) (.inl ⟨by kernel_rfl, fun w _ => by go_simp⟩) hHeld ?_
              simp only [ly1, ly2, ly3, Act.put, ly5, ly6, ly7]
              refine wpAnyH_take (i := 16) (v := .bool ok) rfl (by kernel_rfl) (by kernel_rfl) (by kernel_rfl) (fun _ _ _ h => h) (.inl ⟨by kernel_rfl, fun w _ => by go_simp⟩) hHeld ?_
              simp only [ly1, ly2, ly3, Act.put, ly5, ly6, ly7]
              refine wpAnyH_ready (rs := [19]) (by kernel_rfl) (by simp) (AllReadyH.cons rfl (fun K hK => ?_) AllReadyH.nil)
              have hK' := hid hK
              clear hK
              rw [if_pos (by kernel_rfl)]
              simp only [ly1, ly2, ly3]
              refine wp_store_mid _ _ _ rfl g1 0 cr.toArray rfl rfl (by exact hCr.out.there' hN3_g1.out rfl) (by exact hCr.out.size) (by exact hCr.out.one) ?_
              generalize hW5 : World.setCells _ _ _ _ = W5
              obtain ⟨hG5, hb5⟩ := hCr.out.set hN3_g1.out rfl hW5 hb_3.out (by omega)
              have hG5' := hid hG5
              have hF5 := hid (holds_far hN3_g2.out (Ne.symm hne_g1_g2) hW5)
              have hb5' := hid hb5
              have hH5 := hid (hH4.out.below hb5 hH4.out.lt)
              clear hW5 hG5 hb5 hb_3 hN3_g1 hN3_g2
              refine hK'.out _ _ (by exact hH5.out) (fun hHeld => ?_)
              clear hK' K
              refine wpAnyH_ready (rs := [20]) (by kernel_rfl) (by simp) (AllReadyH.cons rfl (fun K hK => ?_) AllReadyH.nil)
              have hK' := hid hK
              clear hK
              rw [if_pos (by kernel_rfl)]
              simp only [ly1, ly2, ly3]
              refine wp_store_mid _ _ _ rfl g2 0 cs.toArray rfl rfl (by exact hCs.out.there' hF5.out rfl) (by exact hCs.out.size) (by exact hCs.out.one) ?_
              generalize hW6 : World.setCells _ _ _ _ = W6
              obtain ⟨hF6, hb6⟩ := hCs.out.set hF5.out rfl hW6 hb5'.out (by omega)
              have hF6' := hid hF6
              have hG6 := hid (holds_far hG5'.out hne_g1_g2 hW6)
              have hT6 := hid (hT4.out.below hb6 hT4.out.lt)
              have hH6 := hid (hH4.out.below hb6 hH4.out.lt)
              have hR6 := hid (hR4.out.below hb6 hR4.out.lt)
              have hS6 := hid (hS4.out.below hb6 hS4.out.lt)
              have hB6 := hid (below_up hb6 hB4.out)
              clear hW6 hF6 hb6 hb5' hF5 hG5' hH5
              refine hK'.out _ _ (by exact hH6.out) (fun hHeld => ?_)
              clear hK' K
              refine wpAnyH_take (i := 21) (v := .bool ok) rfl (by kernel_rfl) (by kernel_rfl) (by kernel_rfl) (fun _ _ _ h => h) (yieldsIf_assign _ rfl rfl rfl) hHeld ?_
              simp only [ly1, ly2, ly3, Act.put, ly5, ly6, ly7]
              refine wpAnyH_done (by kernel_rfl) ?_ _
              clear hHeld
              have hdr : Below W6.heap.size W6 W6.drew := (Below.refl _ _).drew
              have hF7 := hid (hF6'.out.below hdr hF6'.out.lt)
              have hG7 := hid (hG6.out.below hdr hG6.out.lt)
              have hT7 := hid (hT6.out.below hdr hT6.out.lt)
              have hR7 := hid (hR6.out.below hdr hR6.out.lt)
              have hS7 := hid (hS6.out.below hdr hS6.out.lt)
              have hB7 := hid (below_up hdr hB6.out)
              clear hdr hF6' hG6 hT6 hH6 hR6 hS6 hB6
              go_wp2_with fail
              refine wp_region_held_drew (S := fun W => (Holds W g1 28 cr ∧ Holds W g2 28 cs) ∧ Holds W W2.heap.size 28 ct) (by kernel_rfl) (by exact ⟨⟨hG7.out, hF7.out⟩, hT7.out⟩) (fun hHeld => ?_)
              generalize W6.drew = Wc at *
              refine wpAnyH_take (i := 0) (v := .agg ct.toArray) rfl (by kernel_rfl) (by kernel_rfl) (by kernel_rfl) (fun _ _ _ h => h) (yieldsIf_load_mid (by kernel_rfl) _ _ rfl _ _ rfl _ _ (fun W h => h_all h.2) Try.underlying28 rfl (by exact hCt.out.size')) hHeld ?_
              simp only [ly1, ly2, ly3, Act.put, ly5, ly6, ly7]
              refine wpAnyH_take (i := 1) (v := .agg cr.toArray) rfl (by kernel_rfl) (by kernel_rfl) (by kernel_rfl) (fun _ _ _ h => h) (yieldsIf_load_mid (by kernel_rfl) _ _ rfl _ _ rfl _ _ (fun W h => h_all h.1.1) Try.underlying28 rfl (by exact hCr.out.size')) hHeld ?_
              simp only [ly1, ly2, ly3, Act.put, ly5, ly6, ly7]
              refine wpAnyH_take (i := 3) (v := .agg ct.toArray) rfl (by kernel_rfl) (by kernel_rfl) (by kernel_rfl) (fun _ _ _ h => h) (yieldsIf_load_mid (by kernel_rfl) _ _ rfl _ _ rfl _ _ (fun W h => h_all h.2) Try.underlying28 rfl (by exact hCt.out.size')) hHeld ?_
              simp only [ly1, ly2, ly3, Act.put, ly5, ly6, ly7]
              refine wpAnyH_take (i := 4) (v := .agg cs.toArray) rfl (by kernel_rfl) (by kernel_rfl) (by kernel_rfl) (fun _ _ _ h => h) (yieldsIf_load_mid (by kernel_rfl) _ _ rfl _ _ rfl _ _ (fun W h => h_all h.1.2) Try.underlying28 rfl (by exact hCs.out.size')) hHeld ?_
              simp only [ly1, ly2, ly3, Act.put, ly5, ly6, ly7]
              refine wpAnyH_take (i := 6) (v := .bool ok) rfl (by kernel_rfl) (by kernel_rfl) (by kernel_rfl) (fun _ _ _ h => h) (yieldsIf_move _ rfl rfl rfl) hHeld ?_
              simp only [ly1, ly2, ly3, Act.put, ly5, ly6, ly7]
              refine wpAnyH_ready (rs := [2]) (by kernel_rfl) (by simp) (AllReadyH.cons rfl (fun K hK => ?_) AllReadyH.nil)
              have hK' := hid hK
              clear hK
              rw [if_pos (by kernel_rfl)]
              simp only [ly1, ly2, ly3]
              go_simp
              refine (hro1.out _).mono ?_
              rintro e WV ⟨rfl, hb8⟩
              have hFV := hid (hF7.out.below hb8 hF7.out.lt)
              have hGV := hid (hG7.out.below hb8 hG7.out.lt)
              have hTV := hid (hT7.out.below hb8 hT7.out.lt)
              have hRV := hid (hR7.out.below hb8 hR7.out.lt)
              have hSV := hid (hS7.out.below hb8 hS7.out.lt)
              have hBV := hid (below_up hb8 hB7.out)
              clear hb8 hF7 hG7 hT7 hR7 hS7 hB7
              refine hK'.out _ _ (by exact ⟨⟨hGV.out, hFV.out⟩, hTV.out⟩) (fun hHeld => ?_)
              clear hK' K
              refine wpAnyH_ready (rs := [5]) (by kernel_rfl) (by simp) (AllReadyH.cons rfl (fun K hK => ?_) AllReadyH.nil)
              have hK' := hid hK
              clear hK
              rw [if_pos (by kernel_rfl)]
              simp only [ly1, ly2, ly3]
              go_simp
              refine (hro2.out _).mono ?_
              rintro e WY ⟨rfl, hb8⟩
              have hFY := hid (hFV.out.below hb8 hFV.out.lt)
              have hGY := hid (hGV.out.below hb8 hGV.out.lt)
              have hTY := hid (hTV.out.below hb8 hTV.out.lt)
              have hRY := hid (hRV.out.below hb8 hRV.out.lt)
              have hSY := hid (hSV.out.below hb8 hSV.out.lt)
              have hBY := hid (below_up hb8 hBV.out)
              clear hb8 hFV hGV hTV hRV hSV hBV
              refine hK'.out _ _ (by exact ⟨⟨hGY.out, hFY.out⟩, hTY.out⟩) (fun hHeld => ?_)
              clear hK' K
              refine wpAnyH_ready (rs := [7]) (by kernel_rfl) (by simp) (AllReadyH.cons rfl (fun K hK => ?_) AllReadyH.nil)
              have hK' := hid hK
              clear hK
              rw [if_pos (by kernel_rfl)]
              simp only [ly1, ly2, ly3]
              refine wp_store_mid _ _ _ rfl (w.heap.size + 1) 0 cn1.toArray rfl rfl (by exact hCn1.out.there' hRY.out rfl) (by exact hCn1.out.size) (by exact hCn1.out.one) ?_
              generalize hX1 : World.setCells _ _ _ _ = X1
              obtain ⟨hRx, hbx⟩ := hCn1.out.set hRY.out rfl hX1 hBY.out (by omega)
              have hRx1 := hid hRx
              have hbx1 := hid hbx
              have hSx1 := hid (holds_far hSY.out (by omega) hX1)
              have hFx1 := hid (holds_far hFY.out (by omega) hX1)
              have hGx1 := hid (holds_far hGY.out (by omega) hX1)
              have hTx1 := hid (holds_far hTY.out (by omega) hX1)
              clear hX1 hRx hbx
              refine hK'.out _ _ (by exact ⟨⟨hGx1.out, hFx1.out⟩, hTx1.out⟩) (fun hHeld => ?_)
              clear hK' K
              refine wpAnyH_ready (rs := [8]) (by kernel_rfl) (by simp) (AllReadyH.cons rfl (fun K hK => ?_) AllReadyH.nil)
              have hK' := hid hK
              clear hK
              rw [if_pos (by kernel_rfl)]
              simp only [ly1, ly2, ly3]
              refine wp_store_mid _ _ _ rfl (w.heap.size + 2) 0 cn2.toArray rfl rfl (by exact hCn2.out.there' hSx1.out rfl) (by exact hCn2.out.size) (by exact hCn2.out.one) ?_
              generalize hX2 : World.setCells _ _ _ _ = X2
              obtain ⟨hSx, hbx⟩ := hCn2.out.set hSx1.out rfl hX2 hbx1.out (by omega)
              have hSx2 := hid hSx
              have hbx2 := hid hbx
              have hRx2 := hid (holds_far hRx1.out (by omega) hX2)
              have hFx2 := hid (holds_far hFx1.out (by omega) hX2)
              have hGx2 := hid (holds_far hGx1.out (by omega) hX2)
              have hTx2 := hid (holds_far hTx1.out (by omega) hX2)
              clear hX2 hSx hbx
              refine hK'.out _ _ (by exact ⟨⟨hGx2.out, hFx2.out⟩, hTx2.out⟩) (fun hHeld => ?_)
              clear hK' K
              refine wpAnyH_take (i := 9) (v := .bool ok) rfl (by kernel_rfl) (by kernel_rfl) (by kernel_rfl) (fun _ _ _ h => h) (yieldsIf_assign _ rfl rfl rfl) hHeld ?_
              simp only [ly1, ly2, ly3, Act.put, ly5, ly6, ly7]
              refine wpAnyH_done (by kernel_rfl) ?_ _
              clear hHeld
              go_wp2_with fail
              exact bodyPost_ret (results_cct rfl _ _ (w.heap.size + 1) (w.heap.size + 2) 28 _ _ _ rfl rfl hRx2.out hSx2.out (.bool ok) rfl Try.underlying28 rfl (by exact hCn1.out.size) (by exact hCn2.out.size)) rfl ⟨rfl, hbx2.out⟩

end Go.Proofs.Ytenfhmpjhbpkpaa
