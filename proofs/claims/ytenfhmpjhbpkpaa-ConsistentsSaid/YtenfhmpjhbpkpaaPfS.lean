/- The statements Inclusions, Consistents: their walks. -/
import Derived.Test.YtenfhmpjhbpkpaaPfR
import Derived.Test.YtenfhmpjhbpkpaaPfN
namespace Go.Proofs.Ytenfhmpjhbpkpaa
open Go.RowKit
open Go.Lib (strCells strCells_length strCells_oneCell)
attribute [local irreducible] Sha.compress Sha.blocks Sha.sha Sha.pad

theorem TextsIn.up {w W : World} {A : Option Addr} {n c : Nat} {xs : List ByteArray} (h : TextsIn w A n c xs) (hb : Below w.heap.size w W) : TextsIn W A n c xs := ⟨(h.1.below hb).more hb.size, h.2⟩
theorem HashsIn.up {w W : World} {A : Option Addr} {n c : Nat} {xs : List (List UInt8)} (h : HashsIn w A n c xs) (hb : Below w.heap.size w W) : HashsIn W A n c xs := ⟨(h.1.below hb).more hb.size, h.2⟩

set_option maxRecDepth 100000 in
set_option maxHeartbeats 8000000 in
theorem Inclusions_law {w : World} (A : Option Addr) (n c : Nat) (xs : List ByteArray) (hx : TextsIn w A n c xs) (i : Int) (x : ByteArray) (hxs : x.size ≤ 140737488351232) (size : Int) (A' : Option Addr) (q c' : Nat) (ps : List (List UInt8)) (hy : HashsIn w A' q c' ps) (root : List UInt8) (hr : root.length = 32) :
    Calls Try.prog 7 #[.slice A n c, .int .i64 i, .string x, .int .i64 size, .slice A' q c', hv root] w fun e w' => e = .returned (.bool true) ∧ Below w.heap.size w w' := by
  have hs := hid hx.2.2.2.2
  have hnc := hx.2.1
  have hn14 : n ≤ 100000000000000 := by have := hx.2.2.1; omega
  have hlen := hx.1.len
  have hlen2 := hy.1.len
  have hqc := hy.2.1
  have hq13 : q ≤ 10000000000000 := by have := hy.2.2.1; omega
  have hq14 : q ≤ 100000000000000 := by omega
  have hLd := hid (fun W (h : Below w.heap.size w W) => LendTexts_any (w := W) A n c xs (hx.up h))
  have hLh := hid (fun W (h : Below w.heap.size w W) => LendHashs_any (w := W) A' q c' ps (hy.up h))
  have hp := hid (fun W A3 c3 (h : Texts W W.heap.size A3 n xs) (hc : n ≤ c3) => pInclusion_any A3 n c3 xs i W h hc hs.out)
  have hrr := hid (fun W (h : Texts W W.heap.size A n xs) => rInclusion_any A n c xs i W.heap.size W h (Nat.le_refl _) hnc hs.out)
  have hCr := hid (hash_cells root hr)
  have hpC := hid (fun W A4 c4 (h : Hashs W W.heap.size A4 q ps) (hc : q ≤ c4) => pCheckInc_any x i size A4 q c4 ps root W hxs h hc hr)
  have hrC := hid (fun W (h : Hashs W W.heap.size A' q ps) => rCheckInc_any x i size A' q c' ps root W.heap.size W hxs h (Nat.le_refl _) hqc hq13 hr)
  obtain ⟨ce, hce⟩ : ∃ ce, ckIncE (leafH x.data.toList) i size ps root = ce := ⟨_, rfl⟩
  rw [hce] at hpC hrC
  have hX' := hid hx.1
  have hY' := hid hy.1
  obtain ⟨l, hl⟩ : ∃ l, incL xs i = l := ⟨_, rfl⟩
  obtain ⟨ie, hie⟩ : ∃ e, incE xs i = e := ⟨_, rfl⟩
  rw [hl, hie] at hp hrr
  unfold hv at hpC hrC
  unfold hv
  obtain ⟨cr, hcr⟩ : ∃ cr, byteCells root = cr := ⟨_, rfl⟩
  rw [hcr] at hCr hpC hrC ⊢
  have hR0 := hid (Holds.new w 28 cr.toArray)
  have hB0 := hid ((Below.refl w.heap.size w).alloc (Nat.le_refl _) (.cells cr.toArray 28))
  have hX0 := hid ((hX'.out.below hB0.out).more hB0.out.size)
  have hY0 := hid ((hY'.out.below hB0.out).more hB0.out.size)
  clear hx hy hX' hY' hr hl hie hce hcr hxs
  go_enter Try.func7, Try.ntmps7
  go_wp2_with fail
  refine (hLd.out _ hB0.out).mono ?_
  rintro e W1 ⟨A3, c3, rfl, hc3, hN, hb⟩
  have hR1 := hid (hR0.out.below hb hR0.out.lt)
  have hB1 := hid (below_up hb hB0.out)
  have hX1 := hid ((hX0.out.below hb).more hb.size)
  have hY1 := hid ((hY0.out.below hb).more hb.size)
  have hL1 := hid hN
  clear hb hR0 hB0 hX0 hY0 hN
  go_wp2_with fail
  refine (hLh.out _ hB1.out).mono ?_
  rintro e W2 ⟨A4, c4, rfl, hc4, hN, hb⟩
  have hR2 := hid (hR1.out.below hb hR1.out.lt)
  have hB2 := hid (below_up hb hB1.out)
  have hX2 := hid ((hX1.out.below hb).more hb.size)
  have hY2 := hid ((hY1.out.below hb).more hb.size)
  have hL2 := hid ((hL1.out.below hb).more hb.size)
  have hM2 := hid hN
  clear hb hR1 hB1 hX1 hY1 hL1 hN
  go_wp2_with fail
  refine (hp.out _ _ _ (Texts.front hL2.out hlen) (by omega)).mono ?_
  rintro e W3 ⟨A1, d1, rfl, hN, hd1, -, hl256, hb⟩
  have hR3 := hid (hR2.out.below hb hR2.out.lt)
  have hB3 := hid (below_up hb hB2.out)
  have hX3 := hid ((hX2.out.below hb).more hb.size)
  have hY3 := hid ((hY2.out.below hb).more hb.size)
  have hL3 := hid ((hL2.out.below hb).more hb.size)
  have hM3 := hid ((hM2.out.below hb).more hb.size)
  have hP3 := hid hN
  clear hb hR2 hB2 hX2 hY2 hL2 hM2 hN
  go_wp2_with fail
  refine (hrr.out _ hX3.out).mono ?_
  rintro e W4 ⟨A2, d2, rfl, hN, hd2, -, -, hb⟩
  have hR4 := hid (hR3.out.below hb hR3.out.lt)
  have hB4 := hid (below_up hb hB3.out)
  have hX4 := hid ((hX3.out.below hb).more hb.size)
  have hY4 := hid ((hY3.out.below hb).more hb.size)
  have hL4 := hid ((hL3.out.below hb).more hb.size)
  have hM4 := hid ((hM3.out.below hb).more hb.size)
  have hP4 := hid ((hP3.out.below hb).more hb.size)
  have hQ4 := hid hN
  clear hb hR3 hB3 hX3 hY3 hL3 hM3 hP3 hN
  have hl14 : l.length ≤ 100000000000000 := by omega
  generalize l.length = ln at *
  skip
  go_wp2_with (first
    | ((with_reducible refine at_slot (some 40) ?_); refine wpList_load_mid rfl 28 (.tmp 11) rfl w.heap.size 0 rfl cr _ (by exact h_all hR4.out) Try.underlying28 rfl (by exact hCr.out.size') ?_)
    | fail)
  refine (hpC.out _ _ _ (Hashs.front hM4.out hlen2) (by omega)).mono ?_
  rintro e W5 ⟨rfl, hb⟩
  have hR5 := hid (hR4.out.below hb hR4.out.lt)
  have hB5 := hid (below_up hb hB4.out)
  have hX5 := hid ((hX4.out.below hb).more hb.size)
  have hY5 := hid ((hY4.out.below hb).more hb.size)
  have hL5 := hid ((hL4.out.below hb).more hb.size)
  have hM5 := hid ((hM4.out.below hb).more hb.size)
  have hP5 := hid ((hP4.out.below hb).more hb.size)
  have hQ5 := hid ((hQ4.out.below hb).more hb.size)
  clear hb hR4 hB4 hX4 hY4 hL4 hM4 hP4 hQ4
  go_wp2_with fail
  have hb : Below W5.heap.size W5 W5.drew := (Below.refl _ _).drew
  have hR6 := hid (hR5.out.below hb hR5.out.lt)
  have hB6 := hid (below_up hb hB5.out)
  have hX6 := hid ((hX5.out.below hb).more hb.size)
  have hY6 := hid ((hY5.out.below hb).more hb.size)
  have hL6 := hid ((hL5.out.below hb).more hb.size)
  have hM6 := hid ((hM5.out.below hb).more hb.size)
  have hP6 := hid ((hP5.out.below hb).more hb.size)
  have hQ6 := hid ((hQ5.out.below hb).more hb.size)
  clear hb hR5 hB5 hX5 hY5 hL5 hM5 hP5 hQ5
  refine wp_region_held_drew (S := fun W => Holds W w.heap.size 28 cr) (by kernel_rfl) (by exact hR6.out) (fun hHeld => ?_)
  generalize W5.drew = W6 at *
  refine wpAnyH_take (i := 0) (v := .slice A1 ln d1) rfl (by kernel_rfl) (by kernel_rfl) (by kernel_rfl) (fun _ _ _ h => h) (yieldsIf_move _ rfl rfl rfl) hHeld ?_
  simp only [ly1, ly2, ly3, Act.put, ly5, ly6, ly7]
  refine wpAnyH_take (i := 1) (v := .slice A2 ln d2) rfl (by kernel_rfl) (by kernel_rfl) (by kernel_rfl) (fun _ _ _ h => h) (yieldsIf_move _ rfl rfl rfl) hHeld ?_
  simp only [ly1, ly2, ly3, Act.put, ly5, ly6, ly7]
  refine wpAnyH_ready (rs := [2]) (by kernel_rfl) (by simp) (AllReadyH.cons rfl (fun K hK => ?_) AllReadyH.nil)
  have hK' := hid hK
  clear hK
  rw [if_pos (by kernel_rfl)]
  simp only [ly1, ly2, ly3]
  go_simp
  refine (SameHashs_any A1 ln d1 l A2 d2 _ W6 hP6.out hl14 hQ6.out).mono ?_
  rintro e w' ⟨rfl, mm, rfl⟩
  have hb : Below W6.heap.size W6 (W6.drewN mm) := ⟨rfl, rfl, rfl, Nat.le_refl _, fun _ _ => rfl⟩
  generalize W6.drewN mm = W7 at *
  have hR7 := hid (hR6.out.below hb hR6.out.lt)
  have hB7 := hid (below_up hb hB6.out)
  have hX7 := hid ((hX6.out.below hb).more hb.size)
  have hY7 := hid ((hY6.out.below hb).more hb.size)
  have hL7 := hid ((hL6.out.below hb).more hb.size)
  have hM7 := hid ((hM6.out.below hb).more hb.size)
  clear hb hR6 hB6 hX6 hY6 hL6 hM6 hP6 hQ6
  refine hK'.out _ _ (by exact hR7.out) (fun hHeld => ?_)
  clear hK' K
  refine wpAnyH_take (i := 3) (v := .bool true) rfl (by kernel_rfl) (by kernel_rfl) (by kernel_rfl) (fun _ _ _ h => h) (yieldsIf_move _ rfl rfl rfl) hHeld ?_
  simp only [ly1, ly2, ly3, Act.put, ly5, ly6, ly7]
  refine wpAnyH_take (i := 4) (v := .int .i64 ie) rfl (by kernel_rfl) (by kernel_rfl) (by kernel_rfl) (fun _ _ _ h => h) (.inl ⟨by kernel_rfl, fun w _ => by go_simp⟩) hHeld ?_
  simp only [ly1, ly2, ly3, Act.put, ly5, ly6, ly7]
  refine wpAnyH_take (i := 6) (v := .int .i64 ie) rfl (by kernel_rfl) (by kernel_rfl) (by kernel_rfl) (fun _ _ _ h => h) (.inl ⟨by kernel_rfl, fun w _ => by go_simp⟩) hHeld ?_
  simp only [ly1, ly2, ly3, Act.put, ly5, ly6, ly7]
  refine wpAnyH_ready (rs := [5]) (by kernel_rfl) (by simp) (AllReadyH.cons rfl (fun K hK => ?_) AllReadyH.nil)
  have hK' := hid hK
  clear hK
  rw [if_pos (by kernel_rfl)]
  simp only [ly1, ly2, ly3]
  go_simp
  refine (errNum_any _ _).mono ?_
  rintro e w' ⟨rfl, rfl⟩
  refine hK'.out _ _ (by exact hR7.out) (fun hHeld => ?_)
  clear hK' K
  refine wpAnyH_take (i := 7) (v := .bool true) rfl (by kernel_rfl) (by kernel_rfl) (by kernel_rfl) (fun _ _ _ h => h) (.inl ⟨by kernel_rfl, fun w _ => by go_simp⟩) hHeld ?_
  simp only [ly1, ly2, ly3, Act.put, ly5, ly6, ly7]
  refine wpAnyH_take (i := 8) (v := .bool true) rfl (by kernel_rfl) (by kernel_rfl) (by kernel_rfl) (fun _ _ _ h => h) (yieldsIf_pick _ _ _ rfl rfl rfl rfl) hHeld ?_
  simp only [ly1, ly2, ly3, Act.put, ly5, ly6, ly7]
  refine wpAnyH_take (i := 9) (v := .bool true) rfl (by kernel_rfl) (by kernel_rfl) (by kernel_rfl) (fun _ _ _ h => h) (yieldsIf_move _ rfl rfl rfl) hHeld ?_
  simp only [ly1, ly2, ly3, Act.put, ly5, ly6, ly7]
  refine wpAnyH_take (i := 10) (v := .int .i64 ce) rfl (by kernel_rfl) (by kernel_rfl) (by kernel_rfl) (fun _ _ _ h => h) (.inl ⟨by kernel_rfl, fun w _ => by go_simp⟩) hHeld ?_
  simp only [ly1, ly2, ly3, Act.put, ly5, ly6, ly7]
  refine wpAnyH_take (i := 12) (v := .string x) rfl (by kernel_rfl) (by kernel_rfl) (by kernel_rfl) (fun _ _ _ h => h) (.inl ⟨by kernel_rfl, fun w _ => by go_simp⟩) hHeld ?_
  simp only [ly1, ly2, ly3, Act.put, ly5, ly6, ly7]
  refine wpAnyH_take (i := 13) (v := .int .i64 i) rfl (by kernel_rfl) (by kernel_rfl) (by kernel_rfl) (fun _ _ _ h => h) (.inl ⟨by kernel_rfl, fun w _ => by go_simp⟩) hHeld ?_
  simp only [ly1, ly2, ly3, Act.put, ly5, ly6, ly7]
  refine wpAnyH_take (i := 14) (v := .int .i64 size) rfl (by kernel_rfl) (by kernel_rfl) (by kernel_rfl) (fun _ _ _ h => h) (.inl ⟨by kernel_rfl, fun w _ => by go_simp⟩) hHeld ?_
  simp only [ly1, ly2, ly3, Act.put, ly5, ly6, ly7]
  refine wpAnyH_take (i := 15) (v := .slice A' q c') rfl (by kernel_rfl) (by kernel_rfl) (by kernel_rfl) (fun _ _ _ h => h) (.inl ⟨by kernel_rfl, fun w _ => by go_simp⟩) hHeld ?_
  simp only [ly1, ly2, ly3, Act.put, ly5, ly6, ly7]
  refine wpAnyH_take (i := 16) (v := .agg cr.toArray) rfl (by kernel_rfl) (by kernel_rfl) (by kernel_rfl) (fun _ _ _ h => h) (yieldsIf_load_mid (by kernel_rfl) _ _ rfl _ _ rfl _ _ (fun W h => h_all h) Try.underlying28 rfl (by exact hCr.out.size')) hHeld ?_
  simp only [ly1, ly2, ly3, Act.put, ly5, ly6, ly7]
  refine wpAnyH_ready (rs := [11]) (by kernel_rfl) (by simp) (AllReadyH.cons rfl (fun K hK => ?_) AllReadyH.nil)
  have hK' := hid hK
  clear hK
  rw [if_pos (by kernel_rfl)]
  simp only [ly1, ly2, ly3]
  go_simp
  refine (errNum_any _ _).mono ?_
  rintro e w' ⟨rfl, rfl⟩
  refine hK'.out _ _ (by exact hR7.out) (fun hHeld => ?_)
  clear hK' K
  refine wpAnyH_ready (rs := [17]) (by kernel_rfl) (by simp) (AllReadyH.cons rfl (fun K hK => ?_) AllReadyH.nil)
  have hK' := hid hK
  clear hK
  rw [if_pos (by kernel_rfl)]
  simp only [ly1, ly2, ly3]
  go_simp
  refine (hrC.out _ hY7.out).mono ?_
  rintro e W8 ⟨rfl, hb⟩
  have hR8 := hid (hR7.out.below hb hR7.out.lt)
  have hB8 := hid (below_up hb hB7.out)
  have hX8 := hid ((hX7.out.below hb).more hb.size)
  have hY8 := hid ((hY7.out.below hb).more hb.size)
  have hL8 := hid ((hL7.out.below hb).more hb.size)
  have hM8 := hid ((hM7.out.below hb).more hb.size)
  clear hb hR7 hB7 hX7 hY7 hL7 hM7
  refine hK'.out _ _ (by exact hR8.out) (fun hHeld => ?_)
  clear hK' K
  refine wpAnyH_take (i := 18) (v := .bool true) rfl (by kernel_rfl) (by kernel_rfl) (by kernel_rfl) (fun _ _ _ h => h) (.inl ⟨by kernel_rfl, fun w _ => by go_simp⟩) hHeld ?_
  simp only [ly1, ly2, ly3, Act.put, ly5, ly6, ly7]
  refine wpAnyH_take (i := 19) (v := .bool true) rfl (by kernel_rfl) (by kernel_rfl) (by kernel_rfl) (fun _ _ _ h => h) (yieldsIf_pick _ _ _ rfl rfl rfl rfl) hHeld ?_
  simp only [ly1, ly2, ly3, Act.put, ly5, ly6, ly7]
  refine wpAnyH_take (i := 20) (v := .bool true) rfl (by kernel_rfl) (by kernel_rfl) (by kernel_rfl) (fun _ _ _ h => h) (yieldsIf_move _ rfl rfl rfl) hHeld ?_
  simp only [ly1, ly2, ly3, Act.put, ly5, ly6, ly7]
  refine wpAnyH_take (i := 21) (v := .slice A3 n c3) rfl (by kernel_rfl) (by kernel_rfl) (by kernel_rfl) (fun _ _ _ h => h) (.inl ⟨by kernel_rfl, fun w _ => by go_simp⟩) hHeld ?_
  simp only [ly1, ly2, ly3, Act.put, ly5, ly6, ly7]
  refine wpAnyH_take (i := 22) (v := .slice A n c) rfl (by kernel_rfl) (by kernel_rfl) (by kernel_rfl) (fun _ _ _ h => h) (.inl ⟨by kernel_rfl, fun w _ => by go_simp⟩) hHeld ?_
  simp only [ly1, ly2, ly3, Act.put, ly5, ly6, ly7]
  refine wpAnyH_ready (rs := [23]) (by kernel_rfl) (by simp) (AllReadyH.cons rfl (fun K hK => ?_) AllReadyH.nil)
  have hK' := hid hK
  clear hK
  rw [if_pos (by kernel_rfl)]
  simp only [ly1, ly2, ly3]
  go_simp
  refine (KeptTexts_any A3 n c3 xs A c W8.heap.size hX8.out hn14 hc3 hL8.out).mono ?_
  rintro e w' ⟨rfl, mm, rfl⟩
  have hb : Below W8.heap.size W8 (W8.drewN mm) := ⟨rfl, rfl, rfl, Nat.le_refl _, fun _ _ => rfl⟩
  generalize W8.drewN mm = W9 at *
  have hR9 := hid (hR8.out.below hb hR8.out.lt)
  have hB9 := hid (below_up hb hB8.out)
  have hY9 := hid ((hY8.out.below hb).more hb.size)
  have hM9 := hid ((hM8.out.below hb).more hb.size)
  clear hb hR8 hB8 hX8 hY8 hL8 hM8
  refine hK'.out _ _ (by exact hR9.out) (fun hHeld => ?_)
  clear hK' K
  refine wpAnyH_take (i := 24) (v := .bool true) rfl (by kernel_rfl) (by kernel_rfl) (by kernel_rfl) (fun _ _ _ h => h) (yieldsIf_pick _ _ _ rfl rfl rfl rfl) hHeld ?_
  simp only [ly1, ly2, ly3, Act.put, ly5, ly6, ly7]
  refine wpAnyH_take (i := 25) (v := .bool true) rfl (by kernel_rfl) (by kernel_rfl) (by kernel_rfl) (fun _ _ _ h => h) (yieldsIf_move _ rfl rfl rfl) hHeld ?_
  simp only [ly1, ly2, ly3, Act.put, ly5, ly6, ly7]
  refine wpAnyH_take (i := 26) (v := .slice A4 q c4) rfl (by kernel_rfl) (by kernel_rfl) (by kernel_rfl) (fun _ _ _ h => h) (.inl ⟨by kernel_rfl, fun w _ => by go_simp⟩) hHeld ?_
  simp only [ly1, ly2, ly3, Act.put, ly5, ly6, ly7]
  refine wpAnyH_take (i := 27) (v := .slice A' q c') rfl (by kernel_rfl) (by kernel_rfl) (by kernel_rfl) (fun _ _ _ h => h) (.inl ⟨by kernel_rfl, fun w _ => by go_simp⟩) hHeld ?_
  simp only [ly1, ly2, ly3, Act.put, ly5, ly6, ly7]
  refine wpAnyH_ready (rs := [28]) (by kernel_rfl) (by simp) (AllReadyH.cons rfl (fun K hK => ?_) AllReadyH.nil)
  have hK' := hid hK
  clear hK
  rw [if_pos (by kernel_rfl)]
  simp only [ly1, ly2, ly3]
  go_simp
  refine (KeptHashs_any A4 q c4 ps A' c' W9.heap.size hY9.out hq14 hc4 hM9.out).mono ?_
  rintro e w' ⟨rfl, mm, rfl⟩
  have hb : Below W9.heap.size W9 (W9.drewN mm) := ⟨rfl, rfl, rfl, Nat.le_refl _, fun _ _ => rfl⟩
  generalize W9.drewN mm = W10 at *
  have hR10 := hid (hR9.out.below hb hR9.out.lt)
  have hB10 := hid (below_up hb hB9.out)
  clear hb hR9 hB9 hY9 hM9
  refine hK'.out _ _ (by exact hR10.out) (fun hHeld => ?_)
  clear hK' K
  refine wpAnyH_take (i := 29) (v := .bool true) rfl (by kernel_rfl) (by kernel_rfl) (by kernel_rfl) (fun _ _ _ h => h) (yieldsIf_pick _ _ _ rfl rfl rfl rfl) hHeld ?_
  simp only [ly1, ly2, ly3, Act.put, ly5, ly6, ly7]
  refine wpAnyH_take (i := 30) (v := .bool true) rfl (by kernel_rfl) (by kernel_rfl) (by kernel_rfl) (fun _ _ _ h => h) (yieldsIf_move _ rfl rfl rfl) hHeld ?_
  simp only [ly1, ly2, ly3, Act.put, ly5, ly6, ly7]
  refine wpAnyH_ready (rs := [31]) (by kernel_rfl) (by simp) (AllReadyH.cons rfl (fun K hK => ?_) AllReadyH.nil)
  have hK' := hid hK
  clear hK
  rw [if_pos (by kernel_rfl)]
  simp only [ly1, ly2, ly3]
  go_simp
  refine (awake10_any _).mono ?_
  rintro e W11 ⟨rfl, hb⟩
  have hR11 := hid (hR10.out.below hb hR10.out.lt)
  have hB11 := hid (below_up hb hB10.out)
  clear hb hR10 hB10
  refine hK'.out _ _ (by exact hR11.out) (fun hHeld => ?_)
  clear hK' K
  refine wpAnyH_take (i := 32) (v := .bool true) rfl (by kernel_rfl) (by kernel_rfl) (by kernel_rfl) (fun _ _ _ h => h) (yieldsIf_pick _ _ _ rfl rfl rfl rfl) hHeld ?_
  simp only [ly1, ly2, ly3, Act.put, ly5, ly6, ly7]
  refine wpAnyH_take (i := 33) (v := .bool true) rfl (by kernel_rfl) (by kernel_rfl) (by kernel_rfl) (fun _ _ _ h => h) (yieldsIf_assign _ rfl rfl rfl) hHeld ?_
  simp only [ly1, ly2, ly3, Act.put, ly5, ly6, ly7]
  refine wpAnyH_done (by kernel_rfl) ?_ _
  go_wp2_with fail
  go_ret
  exact ⟨rfl, hB11.out⟩

set_option maxRecDepth 100000 in
set_option maxHeartbeats 8000000 in
theorem Consistents_law {w : World} (A : Option Addr) (n c : Nat) (xs : List ByteArray) (hx : TextsIn w A n c xs) (i : Int) (old : List UInt8) (ho : old.length = 32) (size : Int) (root : List UInt8) (hr : root.length = 32) (A' : Option Addr) (q c' : Nat) (ps : List (List UInt8)) (hy : HashsIn w A' q c' ps) :
    Calls Try.prog 8 #[.slice A n c, .int .i64 i, hv old, .int .i64 size, hv root, .slice A' q c'] w fun e w' => e = .returned (.bool true) ∧ Below w.heap.size w w' := by
  have hs := hid hx.2.2.2.2
  have hnc := hx.2.1
  have hn14 : n ≤ 100000000000000 := by have := hx.2.2.1; omega
  have hlen := hx.1.len
  have hlen2 := hy.1.len
  have hqc := hy.2.1
  have hq13 : q ≤ 10000000000000 := by have := hy.2.2.1; omega
  have hq14 : q ≤ 100000000000000 := by omega
  have hLd := hid (fun W (h : Below w.heap.size w W) => LendTexts_any (w := W) A n c xs (hx.up h))
  have hLh := hid (fun W (h : Below w.heap.size w W) => LendHashs_any (w := W) A' q c' ps (hy.up h))
  have hp := hid (fun W A3 c3 (h : Texts W W.heap.size A3 n xs) (hc : n ≤ c3) => pConsistency_any A3 n c3 xs i W h hc hs.out)
  have hrr := hid (fun W (h : Texts W W.heap.size A n xs) => rConsistency_any A n c xs i W.heap.size W h (Nat.le_refl _) hnc hs.out)
  have hCr := hid (hash_cells root hr)
  have hCo := hid (hash_cells old ho)
  have hpC := hid (fun W A4 c4 (h : Hashs W W.heap.size A4 q ps) (hc : q ≤ c4) => pCheckCon_any i size A4 q c4 ps old root W h hc hq13 ho hr)
  have hrC := hid (fun W (h : Hashs W W.heap.size A' q ps) => rCheckCon_any i size A' q c' ps old root W.heap.size W h (Nat.le_refl _) hqc hq13 ho hr)
  obtain ⟨ce, hce⟩ : ∃ ce, ckConE i old size root ps = ce := ⟨_, rfl⟩
  rw [hce] at hpC hrC
  have hX' := hid hx.1
  have hY' := hid hy.1
  obtain ⟨l, hl⟩ : ∃ l, conL xs i = l := ⟨_, rfl⟩
  obtain ⟨ie, hie⟩ : ∃ e, conE xs i = e := ⟨_, rfl⟩
  rw [hl, hie] at hp hrr
  unfold hv at hpC hrC
  unfold hv
  obtain ⟨co, hco⟩ : ∃ co, byteCells old = co := ⟨_, rfl⟩
  obtain ⟨cr, hcr⟩ : ∃ cr, byteCells root = cr := ⟨_, rfl⟩
  rw [hcr] at hCr hpC hrC ⊢
  rw [hco] at hCo hpC hrC ⊢
  have z1 : (w.alloc (.cells co.toArray 28)).heap.size = w.heap.size + 1 := by simp
  have hB0 := hid (((Below.refl w.heap.size w).alloc (Nat.le_refl _) (.cells co.toArray 28)).alloc (by simp) (.cells cr.toArray 28))
  have hO0 := hid ((Holds.new w 28 co.toArray).alloc (.cells cr.toArray 28))
  have hR0 := hid (show Holds _ (w.heap.size + 1) 28 cr from z1 ▸ Holds.new (w.alloc (.cells co.toArray 28)) 28 cr.toArray)
  have hX0 := hid ((hX'.out.below hB0.out).more hB0.out.size)
  have hY0 := hid ((hY'.out.below hB0.out).more hB0.out.size)
  clear hx hy hX' hY' hr hl hie hce hcr ho hco z1
  go_enter Try.func8, Try.ntmps8
  go_wp2_with fail
  refine (hLd.out _ hB0.out).mono ?_
  rintro e W1 ⟨A3, c3, rfl, hc3, hN, hb⟩
  have hR1 := hid (hR0.out.below hb hR0.out.lt)
  have hB1 := hid (below_up hb hB0.out)
  have hX1 := hid ((hX0.out.below hb).more hb.size)
  have hY1 := hid ((hY0.out.below hb).more hb.size)
  have hO1 := hid (hO0.out.below hb hO0.out.lt)
  have hL1 := hid hN
  clear hb hR0 hB0 hX0 hY0 hO0 hN
  go_wp2_with fail
  refine (hLh.out _ hB1.out).mono ?_
  rintro e W2 ⟨A4, c4, rfl, hc4, hN, hb⟩
  have hR2 := hid (hR1.out.below hb hR1.out.lt)
  have hB2 := hid (below_up hb hB1.out)
  have hX2 := hid ((hX1.out.below hb).more hb.size)
  have hY2 := hid ((hY1.out.below hb).more hb.size)
  have hO2 := hid (hO1.out.below hb hO1.out.lt)
  have hL2 := hid ((hL1.out.below hb).more hb.size)
  have hM2 := hid hN
  clear hb hR1 hB1 hX1 hY1 hO1 hL1 hN
  go_wp2_with fail
  refine (hp.out _ _ _ (Texts.front hL2.out hlen) (by omega)).mono ?_
  rintro e W3 ⟨A1, d1, rfl, hN, hd1, -, hl256, hb⟩
  have hR3 := hid (hR2.out.below hb hR2.out.lt)
  have hB3 := hid (below_up hb hB2.out)
  have hX3 := hid ((hX2.out.below hb).more hb.size)
  have hY3 := hid ((hY2.out.below hb).more hb.size)
  have hO3 := hid (hO2.out.below hb hO2.out.lt)
  have hL3 := hid ((hL2.out.below hb).more hb.size)
  have hM3 := hid ((hM2.out.below hb).more hb.size)
  have hP3 := hid hN
  clear hb hR2 hB2 hX2 hY2 hO2 hL2 hM2 hN
  go_wp2_with fail
  refine (hrr.out _ hX3.out).mono ?_
  rintro e W4 ⟨A2, d2, rfl, hN, hd2, -, -, hb⟩
  have hR4 := hid (hR3.out.below hb hR3.out.lt)
  have hB4 := hid (below_up hb hB3.out)
  have hX4 := hid ((hX3.out.below hb).more hb.size)
  have hY4 := hid ((hY3.out.below hb).more hb.size)
  have hO4 := hid (hO3.out.below hb hO3.out.lt)
  have hL4 := hid ((hL3.out.below hb).more hb.size)
  have hM4 := hid ((hM3.out.below hb).more hb.size)
  have hP4 := hid ((hP3.out.below hb).more hb.size)
  have hQ4 := hid hN
  clear hb hR3 hB3 hX3 hY3 hO3 hL3 hM3 hP3 hN
  have hl14 : l.length ≤ 100000000000000 := by omega
  generalize l.length = ln at *
  skip
  go_wp2_with (first
    | ((with_reducible refine at_slot (some 37) ?_); refine wpList_load_mid rfl 28 (.tmp 8) rfl w.heap.size 0 rfl co _ (by exact h_all hO4.out) Try.underlying28 rfl (by exact hCo.out.size') ?_)
    | ((with_reducible refine at_slot (some 39) ?_); refine wpList_load_mid rfl 28 (.tmp 10) rfl (w.heap.size + 1) 0 rfl cr _ (by exact h_all hR4.out) Try.underlying28 rfl (by exact hCr.out.size') ?_)
    | fail)
  refine (hpC.out _ _ _ (Hashs.front hM4.out hlen2) (by omega)).mono ?_
  rintro e W5 ⟨rfl, hb⟩
  have hR5 := hid (hR4.out.below hb hR4.out.lt)
  have hB5 := hid (below_up hb hB4.out)
  have hX5 := hid ((hX4.out.below hb).more hb.size)
  have hY5 := hid ((hY4.out.below hb).more hb.size)
  have hO5 := hid (hO4.out.below hb hO4.out.lt)
  have hL5 := hid ((hL4.out.below hb).more hb.size)
  have hM5 := hid ((hM4.out.below hb).more hb.size)
  have hP5 := hid ((hP4.out.below hb).more hb.size)
  have hQ5 := hid ((hQ4.out.below hb).more hb.size)
  clear hb hR4 hB4 hX4 hY4 hO4 hL4 hM4 hP4 hQ4
  go_wp2_with fail
  have hb : Below W5.heap.size W5 W5.drew := (Below.refl _ _).drew
  have hR6 := hid (hR5.out.below hb hR5.out.lt)
  have hB6 := hid (below_up hb hB5.out)
  have hX6 := hid ((hX5.out.below hb).more hb.size)
  have hY6 := hid ((hY5.out.below hb).more hb.size)
  have hO6 := hid (hO5.out.below hb hO5.out.lt)
  have hL6 := hid ((hL5.out.below hb).more hb.size)
  have hM6 := hid ((hM5.out.below hb).more hb.size)
  have hP6 := hid ((hP5.out.below hb).more hb.size)
  have hQ6 := hid ((hQ5.out.below hb).more hb.size)
  clear hb hR5 hB5 hX5 hY5 hO5 hL5 hM5 hP5 hQ5
  refine wp_region_held_drew (S := fun W => Holds W w.heap.size 28 co ∧ Holds W (w.heap.size + 1) 28 cr) (by kernel_rfl) (by exact ⟨hO6.out, hR6.out⟩) (fun hHeld => ?_)
  generalize W5.drew = W6 at *
  refine wpAnyH_take (i := 0) (v := .slice A1 ln d1) rfl (by kernel_rfl) (by kernel_rfl) (by kernel_rfl) (fun _ _ _ h => h) (yieldsIf_move _ rfl rfl rfl) hHeld ?_
  simp only [ly1, ly2, ly3, Act.put, ly5, ly6, ly7]
  refine wpAnyH_take (i := 1) (v := .slice A2 ln d2) rfl (by kernel_rfl) (by kernel_rfl) (by kernel_rfl) (fun _ _ _ h => h) (yieldsIf_move _ rfl rfl rfl) hHeld ?_
  simp only [ly1, ly2, ly3, Act.put, ly5, ly6, ly7]
  refine wpAnyH_ready (rs := [2]) (by kernel_rfl) (by simp) (AllReadyH.cons rfl (fun K hK => ?_) AllReadyH.nil)
  have hK' := hid hK
  clear hK
  rw [if_pos (by kernel_rfl)]
  simp only [ly1, ly2, ly3]
  go_simp
  refine (SameHashs_any A1 ln d1 l A2 d2 _ W6 hP6.out hl14 hQ6.out).mono ?_
  rintro e w' ⟨rfl, mm, rfl⟩
  have hb : Below W6.heap.size W6 (W6.drewN mm) := ⟨rfl, rfl, rfl, Nat.le_refl _, fun _ _ => rfl⟩
  generalize W6.drewN mm = W7 at *
  have hR7 := hid (hR6.out.below hb hR6.out.lt)
  have hB7 := hid (below_up hb hB6.out)
  have hX7 := hid ((hX6.out.below hb).more hb.size)
  have hY7 := hid ((hY6.out.below hb).more hb.size)
  have hO7 := hid (hO6.out.below hb hO6.out.lt)
  have hL7 := hid ((hL6.out.below hb).more hb.size)
  have hM7 := hid ((hM6.out.below hb).more hb.size)
  clear hb hR6 hB6 hX6 hY6 hO6 hL6 hM6 hP6 hQ6
  refine hK'.out _ _ (by exact ⟨hO7.out, hR7.out⟩) (fun hHeld => ?_)
  clear hK' K
  refine wpAnyH_take (i := 3) (v := .bool true) rfl (by kernel_rfl) (by kernel_rfl) (by kernel_rfl) (fun _ _ _ h => h) (yieldsIf_move _ rfl rfl rfl) hHeld ?_
  simp only [ly1, ly2, ly3, Act.put, ly5, ly6, ly7]
  refine wpAnyH_take (i := 4) (v := .int .i64 ie) rfl (by kernel_rfl) (by kernel_rfl) (by kernel_rfl) (fun _ _ _ h => h) (.inl ⟨by kernel_rfl, fun w _ => by go_simp⟩) hHeld ?_
  simp only [ly1, ly2, ly3, Act.put, ly5, ly6, ly7]
  refine wpAnyH_take (i := 6) (v := .int .i64 ie) rfl (by kernel_rfl) (by kernel_rfl) (by kernel_rfl) (fun _ _ _ h => h) (.inl ⟨by kernel_rfl, fun w _ => by go_simp⟩) hHeld ?_
  simp only [ly1, ly2, ly3, Act.put, ly5, ly6, ly7]
  refine wpAnyH_ready (rs := [5]) (by kernel_rfl) (by simp) (AllReadyH.cons rfl (fun K hK => ?_) AllReadyH.nil)
  have hK' := hid hK
  clear hK
  rw [if_pos (by kernel_rfl)]
  simp only [ly1, ly2, ly3]
  go_simp
  refine (errNum_any _ _).mono ?_
  rintro e w' ⟨rfl, rfl⟩
  refine hK'.out _ _ (by exact ⟨hO7.out, hR7.out⟩) (fun hHeld => ?_)
  clear hK' K
  refine wpAnyH_take (i := 7) (v := .bool true) rfl (by kernel_rfl) (by kernel_rfl) (by kernel_rfl) (fun _ _ _ h => h) (.inl ⟨by kernel_rfl, fun w _ => by go_simp⟩) hHeld ?_
  simp only [ly1, ly2, ly3, Act.put, ly5, ly6, ly7]
  refine wpAnyH_take (i := 8) (v := .bool true) rfl (by kernel_rfl) (by kernel_rfl) (by kernel_rfl) (fun _ _ _ h => h) (yieldsIf_pick _ _ _ rfl rfl rfl rfl) hHeld ?_
  simp only [ly1, ly2, ly3, Act.put, ly5, ly6, ly7]
  refine wpAnyH_take (i := 9) (v := .bool true) rfl (by kernel_rfl) (by kernel_rfl) (by kernel_rfl) (fun _ _ _ h => h) (yieldsIf_move _ rfl rfl rfl) hHeld ?_
  simp only [ly1, ly2, ly3, Act.put, ly5, ly6, ly7]
  refine wpAnyH_take (i := 10) (v := .int .i64 ce) rfl (by kernel_rfl) (by kernel_rfl) (by kernel_rfl) (fun _ _ _ h => h) (.inl ⟨by kernel_rfl, fun w _ => by go_simp⟩) hHeld ?_
  simp only [ly1, ly2, ly3, Act.put, ly5, ly6, ly7]
  refine wpAnyH_take (i := 12) (v := .int .i64 i) rfl (by kernel_rfl) (by kernel_rfl) (by kernel_rfl) (fun _ _ _ h => h) (.inl ⟨by kernel_rfl, fun w _ => by go_simp⟩) hHeld ?_
  simp only [ly1, ly2, ly3, Act.put, ly5, ly6, ly7]
  refine wpAnyH_take (i := 13) (v := .agg co.toArray) rfl (by kernel_rfl) (by kernel_rfl) (by kernel_rfl) (fun _ _ _ h => h) (yieldsIf_load_mid (by kernel_rfl) _ _ rfl _ _ rfl _ _ (fun W h => h_all h.1) Try.underlying28 rfl (by exact hCo.out.size')) hHeld ?_
  simp only [ly1, ly2, ly3, Act.put, ly5, ly6, ly7]
  refine wpAnyH_take (i := 14) (v := .int .i64 size) rfl (by kernel_rfl) (by kernel_rfl) (by kernel_rfl) (fun _ _ _ h => h) (.inl ⟨by kernel_rfl, fun w _ => by go_simp⟩) hHeld ?_
  simp only [ly1, ly2, ly3, Act.put, ly5, ly6, ly7]
  refine wpAnyH_take (i := 15) (v := .agg cr.toArray) rfl (by kernel_rfl) (by kernel_rfl) (by kernel_rfl) (fun _ _ _ h => h) (yieldsIf_load_mid (by kernel_rfl) _ _ rfl _ _ rfl _ _ (fun W h => h_all h.2) Try.underlying28 rfl (by exact hCr.out.size')) hHeld ?_
  simp only [ly1, ly2, ly3, Act.put, ly5, ly6, ly7]
  refine wpAnyH_take (i := 16) (v := .slice A' q c') rfl (by kernel_rfl) (by kernel_rfl) (by kernel_rfl) (fun _ _ _ h => h) (.inl ⟨by kernel_rfl, fun w _ => by go_simp⟩) hHeld ?_
  simp only [ly1, ly2, ly3, Act.put, ly5, ly6, ly7]
  refine wpAnyH_ready (rs := [11]) (by kernel_rfl) (by simp) (AllReadyH.cons rfl (fun K hK => ?_) AllReadyH.nil)
  have hK' := hid hK
  clear hK
  rw [if_pos (by kernel_rfl)]
  simp only [ly1, ly2, ly3]
  go_simp
  refine (errNum_any _ _).mono ?_
  rintro e w' ⟨rfl, rfl⟩
  refine hK'.out _ _ (by exact ⟨hO7.out, hR7.out⟩) (fun hHeld => ?_)
  clear hK' K
  refine wpAnyH_ready (rs := [17]) (by kernel_rfl) (by simp) (AllReadyH.cons rfl (fun K hK => ?_) AllReadyH.nil)
  have hK' := hid hK
  clear hK
  rw [if_pos (by kernel_rfl)]
  simp only [ly1, ly2, ly3]
  go_simp
  refine (hrC.out _ hY7.out).mono ?_
  rintro e W8 ⟨rfl, hb⟩
  have hR8 := hid (hR7.out.below hb hR7.out.lt)
  have hB8 := hid (below_up hb hB7.out)
  have hX8 := hid ((hX7.out.below hb).more hb.size)
  have hY8 := hid ((hY7.out.below hb).more hb.size)
  have hO8 := hid (hO7.out.below hb hO7.out.lt)
  have hL8 := hid ((hL7.out.below hb).more hb.size)
  have hM8 := hid ((hM7.out.below hb).more hb.size)
  clear hb hR7 hB7 hX7 hY7 hO7 hL7 hM7
  refine hK'.out _ _ (by exact ⟨hO8.out, hR8.out⟩) (fun hHeld => ?_)
  clear hK' K
  refine wpAnyH_take (i := 18) (v := .bool true) rfl (by kernel_rfl) (by kernel_rfl) (by kernel_rfl) (fun _ _ _ h => h) (.inl ⟨by kernel_rfl, fun w _ => by go_simp⟩) hHeld ?_
  simp only [ly1, ly2, ly3, Act.put, ly5, ly6, ly7]
  refine wpAnyH_take (i := 19) (v := .bool true) rfl (by kernel_rfl) (by kernel_rfl) (by kernel_rfl) (fun _ _ _ h => h) (yieldsIf_pick _ _ _ rfl rfl rfl rfl) hHeld ?_
  simp only [ly1, ly2, ly3, Act.put, ly5, ly6, ly7]
  refine wpAnyH_take (i := 20) (v := .bool true) rfl (by kernel_rfl) (by kernel_rfl) (by kernel_rfl) (fun _ _ _ h => h) (yieldsIf_move _ rfl rfl rfl) hHeld ?_
  simp only [ly1, ly2, ly3, Act.put, ly5, ly6, ly7]
  refine wpAnyH_take (i := 21) (v := .slice A3 n c3) rfl (by kernel_rfl) (by kernel_rfl) (by kernel_rfl) (fun _ _ _ h => h) (.inl ⟨by kernel_rfl, fun w _ => by go_simp⟩) hHeld ?_
  simp only [ly1, ly2, ly3, Act.put, ly5, ly6, ly7]
  refine wpAnyH_take (i := 22) (v := .slice A n c) rfl (by kernel_rfl) (by kernel_rfl) (by kernel_rfl) (fun _ _ _ h => h) (.inl ⟨by kernel_rfl, fun w _ => by go_simp⟩) hHeld ?_
  simp only [ly1, ly2, ly3, Act.put, ly5, ly6, ly7]
  refine wpAnyH_ready (rs := [23]) (by kernel_rfl) (by simp) (AllReadyH.cons rfl (fun K hK => ?_) AllReadyH.nil)
  have hK' := hid hK
  clear hK
  rw [if_pos (by kernel_rfl)]
  simp only [ly1, ly2, ly3]
  go_simp
  refine (KeptTexts_any A3 n c3 xs A c W8.heap.size hX8.out hn14 hc3 hL8.out).mono ?_
  rintro e w' ⟨rfl, mm, rfl⟩
  have hb : Below W8.heap.size W8 (W8.drewN mm) := ⟨rfl, rfl, rfl, Nat.le_refl _, fun _ _ => rfl⟩
  generalize W8.drewN mm = W9 at *
  have hR9 := hid (hR8.out.below hb hR8.out.lt)
  have hB9 := hid (below_up hb hB8.out)
  have hY9 := hid ((hY8.out.below hb).more hb.size)
  have hO9 := hid (hO8.out.below hb hO8.out.lt)
  have hM9 := hid ((hM8.out.below hb).more hb.size)
  clear hb hR8 hB8 hX8 hY8 hO8 hL8 hM8
  refine hK'.out _ _ (by exact ⟨hO9.out, hR9.out⟩) (fun hHeld => ?_)
  clear hK' K
  refine wpAnyH_take (i := 24) (v := .bool true) rfl (by kernel_rfl) (by kernel_rfl) (by kernel_rfl) (fun _ _ _ h => h) (yieldsIf_pick _ _ _ rfl rfl rfl rfl) hHeld ?_
  simp only [ly1, ly2, ly3, Act.put, ly5, ly6, ly7]
  refine wpAnyH_take (i := 25) (v := .bool true) rfl (by kernel_rfl) (by kernel_rfl) (by kernel_rfl) (fun _ _ _ h => h) (yieldsIf_move _ rfl rfl rfl) hHeld ?_
  simp only [ly1, ly2, ly3, Act.put, ly5, ly6, ly7]
  refine wpAnyH_take (i := 26) (v := .slice A4 q c4) rfl (by kernel_rfl) (by kernel_rfl) (by kernel_rfl) (fun _ _ _ h => h) (.inl ⟨by kernel_rfl, fun w _ => by go_simp⟩) hHeld ?_
  simp only [ly1, ly2, ly3, Act.put, ly5, ly6, ly7]
  refine wpAnyH_take (i := 27) (v := .slice A' q c') rfl (by kernel_rfl) (by kernel_rfl) (by kernel_rfl) (fun _ _ _ h => h) (.inl ⟨by kernel_rfl, fun w _ => by go_simp⟩) hHeld ?_
  simp only [ly1, ly2, ly3, Act.put, ly5, ly6, ly7]
  refine wpAnyH_ready (rs := [28]) (by kernel_rfl) (by simp) (AllReadyH.cons rfl (fun K hK => ?_) AllReadyH.nil)
  have hK' := hid hK
  clear hK
  rw [if_pos (by kernel_rfl)]
  simp only [ly1, ly2, ly3]
  go_simp
  refine (KeptHashs_any A4 q c4 ps A' c' W9.heap.size hY9.out hq14 hc4 hM9.out).mono ?_
  rintro e w' ⟨rfl, mm, rfl⟩
  have hb : Below W9.heap.size W9 (W9.drewN mm) := ⟨rfl, rfl, rfl, Nat.le_refl _, fun _ _ => rfl⟩
  generalize W9.drewN mm = W10 at *
  have hR10 := hid (hR9.out.below hb hR9.out.lt)
  have hB10 := hid (below_up hb hB9.out)
  have hO10 := hid (hO9.out.below hb hO9.out.lt)
  clear hb hR9 hB9 hY9 hO9 hM9
  refine hK'.out _ _ (by exact ⟨hO10.out, hR10.out⟩) (fun hHeld => ?_)
  clear hK' K
  refine wpAnyH_take (i := 29) (v := .bool true) rfl (by kernel_rfl) (by kernel_rfl) (by kernel_rfl) (fun _ _ _ h => h) (yieldsIf_pick _ _ _ rfl rfl rfl rfl) hHeld ?_
  simp only [ly1, ly2, ly3, Act.put, ly5, ly6, ly7]
  refine wpAnyH_take (i := 30) (v := .bool true) rfl (by kernel_rfl) (by kernel_rfl) (by kernel_rfl) (fun _ _ _ h => h) (yieldsIf_move _ rfl rfl rfl) hHeld ?_
  simp only [ly1, ly2, ly3, Act.put, ly5, ly6, ly7]
  refine wpAnyH_ready (rs := [31]) (by kernel_rfl) (by simp) (AllReadyH.cons rfl (fun K hK => ?_) AllReadyH.nil)
  have hK' := hid hK
  clear hK
  rw [if_pos (by kernel_rfl)]
  simp only [ly1, ly2, ly3]
  go_simp
  refine (awake10_any _).mono ?_
  rintro e W11 ⟨rfl, hb⟩
  have hR11 := hid (hR10.out.below hb hR10.out.lt)
  have hB11 := hid (below_up hb hB10.out)
  have hO11 := hid (hO10.out.below hb hO10.out.lt)
  clear hb hR10 hB10 hO10
  refine hK'.out _ _ (by exact ⟨hO11.out, hR11.out⟩) (fun hHeld => ?_)
  clear hK' K
  refine wpAnyH_take (i := 32) (v := .bool true) rfl (by kernel_rfl) (by kernel_rfl) (by kernel_rfl) (fun _ _ _ h => h) (yieldsIf_pick _ _ _ rfl rfl rfl rfl) hHeld ?_
  simp only [ly1, ly2, ly3, Act.put, ly5, ly6, ly7]
  refine wpAnyH_take (i := 33) (v := .bool true) rfl (by kernel_rfl) (by kernel_rfl) (by kernel_rfl) (fun _ _ _ h => h) (yieldsIf_assign _ rfl rfl rfl) hHeld ?_
  simp only [ly1, ly2, ly3, Act.put, ly5, ly6, ly7]
  refine wpAnyH_done (by kernel_rfl) ?_ _
  go_wp2_with fail
  go_ret
  exact ⟨rfl, hB11.out⟩

end Go.Proofs.Ytenfhmpjhbpkpaa
