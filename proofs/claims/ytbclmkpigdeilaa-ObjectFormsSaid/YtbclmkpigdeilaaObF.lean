/- Layer 11: ObjectForms. -/
import Derived.Test.YtbclmkpigdeilaaObW
import Derived.Test.YtbclmkpigdeilaaHashE
import Derived.Test.YtbclmkpigdeilaaArith
namespace Go.Proofs.Ytbclmkpigdeilaa
open Go.RowKit
open Go.Lib (strCells strCells_length strCells_oneCell)
attribute [local irreducible] Sha.compress Sha.blocks Sha.sha Sha.pad

theorem putAns_room {most : Nat} {m : Obs} {d : ByteArray} (hm : m.length < most) : (putAns most m d).2.1 = (if d.size ≤ 4096 then 0 else 1100) ∧ (putAns most m d).2.2.length ≤ m.length + 1 := by
  unfold putAns
  by_cases h : 4096 < d.size
  · rw [if_pos h, if_neg (by omega)]
    exact ⟨rfl, Nat.le_succ _⟩
  · rw [if_neg h, if_pos (show d.size ≤ 4096 by omega)]
    by_cases h2 : (obGet m (obHash d)).isSome
    · rw [if_pos h2]
      exact ⟨rfl, Nat.le_succ _⟩
    · rw [if_neg h2, if_pos hm]
      exact ⟨rfl, by simp⟩
theorem addAns_room {most : Nat} {m : Obs} {k : List UInt8} {d : ByteArray} (hm : m.length < most) : (addAns most m k d).1 = (if d.size ≤ 4096 ∧ obHash d = k then 0 else 1100) ∧ (addAns most m k d).2.length ≤ m.length + 1 := by
  unfold addAns
  by_cases h : 4096 < d.size ∨ obHash d ≠ k
  · rw [if_pos h, if_neg (by rintro ⟨h1, h2⟩; exact h.elim (by omega) (fun h3 => h3 h2))]
    exact ⟨rfl, Nat.le_succ _⟩
  · have h1 : d.size ≤ 4096 := by omega
    have h2 : obHash d = k := Classical.byContradiction fun e => h (.inr e)
    rw [if_neg h, if_pos ⟨h1, h2⟩]
    have := putAns_room (d := d) hm
    rw [if_pos h1] at this
    exact this
theorem obNew_code (most : Int) (c : Int) (hc : (1 ≤ most ∧ most ≤ 1024 ∧ c = 0) ∨ (¬ (1 ≤ most ∧ most ≤ 1024) ∧ c = 1100)) (w : World) : Calls Try.prog 15 #[.int .i64 most] w fun e w' => ∃ p, e = .returned (.tuple #[p, .int .i64 c]) ∧ Below w.heap.size w w' := by
  rcases hc with ⟨h1, h2, rfl⟩ | ⟨h, rfl⟩
  · obtain ⟨n, rfl⟩ : ∃ n : Nat, most = (n : Int) := ⟨most.toNat, by omega⟩
    exact (obNew_yes n (by omega) (by omega) w).mono fun e w' ⟨he, _, hb⟩ => ⟨_, he, hb⟩
  · exact (obNew_no most h w).mono fun e w' ⟨he, hw⟩ => ⟨_, he, by rw [hw]; exact Below.refl _ _⟩
def tABC : ByteArray := ⟨#[97, 98, 99]⟩
theorem fPut {s b : Nat} {m pm : Obs} {d : ByteArray} {pa : List UInt8} {pc : Int} {w : World} (e : putAns 3 m d = (pa, pc, pm)) (h : StoreAt w s b 3 m) :
    Calls Try.prog 19 #[.pointer (some ⟨s, 0, none⟩), .string d] w fun e w' => e = .returned (.tuple #[.agg (byteCells pa).toArray, .int .i64 pc]) ∧ StoreAt w' s b 3 pm ∧ w.grownBy w' (some b) := by
  have := obPut_any s b 3 m d w h
  rw [e] at this
  exact this
theorem fAdd {s b : Nat} {m am : Obs} {k : List UInt8} (hk : k.length = 32) {d : ByteArray} {ac : Int} {w : World} (e : addAns 3 m k d = (ac, am)) (h : StoreAt w s b 3 m) :
    Calls Try.prog 22 #[.pointer (some ⟨s, 0, none⟩), .agg (byteCells k).toArray, .string d] w fun e w' => e = .returned (.int .i64 ac) ∧ StoreAt w' s b 3 am ∧ w.grownBy w' (some b) := by
  have := obAdd_any s b 3 m k hk d w h
  rw [e] at this
  exact this
theorem fObj {d : ByteArray} {l : List UInt8} (e : obHash d = l) (hd : d.size ≤ 65536) (w : World) : Calls Try.prog 21 #[.string d] w fun e w' => e = .returned (.agg (byteCells l).toArray) ∧ Below w.heap.size w w' := by
  have := rObject_any d (by omega) w
  rw [show objAns d = obHash d from if_pos hd, e] at this
  exact this

set_option maxRecDepth 100000 in
set_option maxHeartbeats 16000000 in
theorem ObjectForms_law {w : World} (most size : Int) (kh : List UInt8) (k32 : kh.length = 32) :
    Calls Try.prog 5 #[.int .i64 most, .int .i64 size, .agg (byteCells kh).toArray] w fun e w' => e = .returned (.bool true) ∧ Below w.heap.size w w' := by
  obtain ⟨L, hL, hand, -⟩ := and_mask size 3 (by decide) 7 rfl
  have hL8 : L < 8 := hL
  have hl1 := IntWalk.i64_in (4094 + (L : Int)) (by omega)
  obtain ⟨i0, hi, hz0, hzz, hby⟩ := info_parts Try.infoU8
  obtain ⟨x, hx⟩ : ∃ z, zeroS (4094 + L) = z := ⟨_, rfl⟩
  have hxs : x.size = 4094 + L := by rw [← hx]; exact zeroS_size _
  have hx' := hid hx
  have hxs' := hid hxs
  obtain ⟨⟨pa, pc, pm⟩, hpa⟩ : ∃ z, putAns 3 [] x = z := ⟨_, rfl⟩
  obtain ⟨⟨ac, am⟩, hac⟩ : ∃ z, addAns 3 pm kh tABC = z := ⟨_, rfl⟩
  obtain ⟨l, hl⟩ : ∃ l, obHash x = l := ⟨_, rfl⟩
  obtain ⟨la, hla⟩ : ∃ l, obHash tABC = l := ⟨_, rfl⟩
  have l32 : l.length = 32 := by rw [← hl]; exact obHash_len x
  have la32 : la.length = 32 := by rw [← hla]; exact obHash_len _
  obtain ⟨⟨jc, jm⟩, hjc⟩ : ∃ z, addAns 3 am l x = z := ⟨_, rfl⟩
  have q1 := putAns_room (most := 3) (m := []) (d := x) (by decide)
  rw [hpa] at q1
  have q1l : pm.length ≤ 1 := q1.2
  have q2 := addAns_room (most := 3) (m := pm) (k := kh) (d := tABC) (by omega)
  rw [hac, hla] at q2
  have q2l : am.length ≤ 2 := by have := q2.2; simp only at this; omega
  have q3 := addAns_room (most := 3) (m := am) (k := l) (d := x) (by omega)
  rw [hjc, hl] at q3
  have q1c : pc = (if x.size ≤ 4096 then 0 else 1100) := q1.1
  have q2c : ac = (if tABC.size ≤ 4096 ∧ la = kh then 0 else 1100) := q2.1
  have q3c : jc = (if x.size ≤ 4096 ∧ l = l then 0 else 1100) := q3.1
  have p32 : pa.length = 32 := by have := putAns_len 3 [] x; rw [hpa] at this; exact this
  have hPut := hid (fun s b V (h : StoreAt V s b 3 []) => fPut hpa h)
  have hAb := hid (fun s b V (h : StoreAt V s b 3 pm) => fAdd k32 hac h)
  have hAx := hid (fun s b V (h : StoreAt V s b 3 am) => fAdd l32 hjc h)
  have hOx := hid (fun V => fObj hl (by omega) V)
  have hOa := hid (fun V => show Calls Try.prog 21 #[.string ⟨#[97, 98, 99]⟩] V fun e w' => e = .returned (.agg (byteCells la).toArray) ∧ Below V.heap.size V w' from fObj hla (by decide) V)
  have hN3 := hid (fun V => obNew_yes 3 (by decide) (by decide) V)
  have hC := hid (hash_cells pa p32)
  have hC2 := hid (show (Try.prog.info? 33).map (·.size) = some (byteCells kh).length from by have := (hash_cells kh k32).size; rwa [List.size_toArray] at this)
  have hk32 := hid k32
  have hla32 := hid la32
  obtain ⟨W0, hW0⟩ : ∃ W0, w.alloc (.cells (byteCells kh).toArray 33) = W0 := ⟨_, rfl⟩
  have hK0 := hid (show Holds W0 w.heap.size 33 (byteCells kh) from by rw [← hW0]; exact Holds.new w 33 (byteCells kh).toArray)
  have hB0 := hid (show Below w.heap.size w W0 from by rw [← hW0]; exact (Below.refl _ _).alloc (Nat.le_refl _) _)
  have hW0' := hid hW0
  clear hW0 hL hx hxs hpa hac hl hla hjc q1 q2 q3 q1l q2l p32 l32 la32 k32
  have cM : (1 ≤ most ∧ most ≤ 1024) ∨ ¬ (1 ≤ most) ∨ (1 ≤ most ∧ ¬ most ≤ 1024) := by omega
  have cF : (L ≤ 2 ∧ pc = 0 ∧ jc = 0) ∨ (¬ L ≤ 2 ∧ pc = 1100 ∧ jc = 1100) := by
    by_cases h : L ≤ 2
    · exact .inl ⟨h, by rw [q1c, if_pos (by rw [hxs'.out]; omega)], by rw [q3c, if_pos ⟨by rw [hxs'.out]; omega, rfl⟩]⟩
    · exact .inr ⟨h, by rw [q1c, if_neg (by rw [hxs'.out]; omega)], by rw [q3c, if_neg (fun e => by have := e.1; rw [hxs'.out] at this; omega)]⟩
  have cQ : ((kh == la) = true ∧ ac = 0) ∨ ((kh == la) = false ∧ ac = 1100) := by
    by_cases h : la = kh
    · exact .inl ⟨beq_iff_eq.2 h.symm, by rw [q2c, if_pos ⟨by decide, h⟩]⟩
    · exact .inr ⟨beq_eq_false_iff_ne.2 (fun e => h e.symm), by rw [q2c, if_neg (fun e => h e.2)]⟩
  clear q1c q2c q3c
  rcases cM with ⟨m1, m2⟩ | m1 | ⟨m1, m2⟩ <;> rcases cF with ⟨hL2, rfl, rfl⟩ | ⟨hL2, rfl, rfl⟩ <;> rcases cQ with ⟨hq, rfl⟩ | ⟨hq, rfl⟩
  · as_aux_lemma =>
      have hq' := hid hq
      have hN := hid (fun V => obNew_code most 0 (.inl ⟨m1, m2, rfl⟩) V)
      clear hq
      have hf : (4094 + (L : Int) ≤ 4096) := by omega
      go_enter Try.func5, Try.ntmps5
      go_wp2_with (first
        | ((with_reducible refine at_slot (some 5) ?_); refine wpList_run rfl (.pointer (some ⟨w.heap.size, 0, none⟩)) (w.alloc (.cells (byteCells kh).toArray 33)) (by kernel_rfl) ?_; rw [hW0'.out])
        | fail)
      refine (awake11_any _).mono ?_
      rintro e W1 ⟨rfl, hb⟩
      have hK1 := hid (hK0.out.below hb hK0.out.lt)
      have hB1 := hid (below_up hb hB0.out)
      clear hb hK0 hB0
      go_wp2_with fail
      refine (hN.out _).mono ?_
      rintro e W2 ⟨p, rfl, hb⟩
      have hK2 := hid (hK1.out.below hb hK1.out.lt)
      have hB2 := hid (below_up hb hB1.out)
      clear hb hK1 hB1
      try (rename_i hKK; refine hKK _ _ ?_; clear hKK)
      go_wp2_with fail
      refine (hN3.out _).mono ?_
      rintro e W3 ⟨rfl, hA, hb⟩
      obtain ⟨b, hbb⟩ : ∃ b, W2.heap.size = b := ⟨_, rfl⟩
      have hneK := hid (show w.heap.size ≠ b from by rw [← hbb]; have := hK2.out.lt; omega)
      have hloB := hid (show w.heap.size ≤ b from by rw [← hbb]; exact hB2.out.size)
      have hK3 := hid (hK2.out.below hb hK2.out.lt)
      have hB3 := hid (below_up hb hB2.out)
      have hA3 := hid hA
      clear hb hK2 hB2 hA
      rw [hbb] at hA3 ⊢
      clear hbb
      try (rename_i hKK; refine hKK _ _ ?_; clear hKK)
      go_wp2_with (first
        | ((with_reducible refine at_slot (some 40) ?_); refine wpList_make_zeros rfl _ _ 51 rfl 5 i0 Try.underlying51 hi hz0 hzz hby _ (4094 + L) rfl rfl (by omega) (by omega) x hx'.out ?_; intro W4 hRz hb; have hcv := run_convert_row (P := Try.prog) (w := W4) (e := 5) 51 9 Try.underlying51 Try.underlying5 Try.underlying9 hxs'.out.symm hRz; have hcv' := hid hcv; clear hcv hRz; have hK4 := hid (hK3.out.below hb hK3.out.lt); have hB4 := hid (below_up hb hB3.out); have hA4 := hid (hA3.out.on hb); clear hb hK3 hB3 hA3)
        | ((with_reducible refine at_slot (some 41) ?_); refine wpList_convert rfl 51 9 (.tmp 40) rfl _ (.string x) _ rfl (by exact hcv'.out) ?_)
        | fail)
      clear hcv'
      refine (hPut.out _ _ _ hA4.out).mono ?_
      rintro e W5 ⟨rfl, hA, hg⟩
      have hA5 := hid hA
      have hB5 := hid (hB4.out.grown hg hB4.out.size (fun i e => by have := Option.some.inj e; have := hloB.out; omega))
      have hK5 := hid (hb_neb hK4.out hg hneK.out)
      clear hA hg hA4 hB4 hK4
      try (rename_i hKK; refine hKK _ _ ?_; clear hKK)
      go_wp2_with (first
        | ((with_reducible refine at_slot (some 14) ?_); refine wpList_run rfl (.pointer (some ⟨W5.heap.size, 0, none⟩)) (W5.alloc (.cells z32 33)) (by kernel_rfl) ?_)
        | ((with_reducible refine at_slot none ?_); refine wpList_store_mid rfl 33 (.tmp 14) (.tmp 46) rfl W5.heap.size 0 (byteCells pa).toArray rfl rfl (by exact hC.out.there W5) (by exact hC.out.size) (by exact hC.out.one) ?_; generalize hW : World.setCells _ _ _ _ = W6; obtain ⟨hN, hb⟩ := hC.out.new hW; have hK6 := hid (hK5.out.below hb hK5.out.lt); have hB6 := hid (below_up hb hB5.out); have hA6 := hid (hA5.out.on hb); have hY6 := hid hN; clear hb hK5 hB5 hA5 hN; clear hW)
        | ((with_reducible refine at_slot (some 49) ?_); refine wpList_load_mid rfl 33 (.tmp 5) rfl w.heap.size 0 rfl (byteCells kh) _ (by exact h_all hK6.out) Try.underlying33 rfl (by exact hC2.out) ?_)
        | fail)
      refine (hAb.out _ _ _ hA6.out).mono ?_
      rintro e W7 ⟨rfl, hA, hg⟩
      have hA7 := hid hA
      have hB7 := hid (hB6.out.grown hg hB6.out.size (fun i e => by have := Option.some.inj e; have := hloB.out; omega))
      have hK7 := hid (hb_neb hK6.out hg hneK.out)
      clear hA hg hA6 hB6 hK6
      try (rename_i hKK; refine hKK _ _ ?_; clear hKK)
      go_wp2_with fail
      refine (hOx.out _).mono ?_
      rintro e W8 ⟨rfl, hb⟩
      have hK8 := hid (hK7.out.below hb hK7.out.lt)
      have hB8 := hid (below_up hb hB7.out)
      have hA8 := hid (hA7.out.on hb)
      clear hb hK7 hB7 hA7
      try (rename_i hKK; refine hKK _ _ ?_; clear hKK)
      go_wp2_with fail
      refine (hAx.out _ _ _ hA8.out).mono ?_
      rintro e W9 ⟨rfl, hA, hg⟩
      have hA9 := hid hA
      have hB9 := hid (hB8.out.grown hg hB8.out.size (fun i e => by have := Option.some.inj e; have := hloB.out; omega))
      have hK9 := hid (hb_neb hK8.out hg hneK.out)
      clear hA hg hA8 hB8 hK8
      try (rename_i hKK; refine hKK _ _ ?_; clear hKK)
      go_wp2_with fail
      have hb : Below W9.heap.size W9 W9.drew := (Below.refl _ _).drew
      have hK10 := hid (hK9.out.below hb hK9.out.lt)
      have hB10 := hid (below_up hb hB9.out)
      have hA10 := hid (hA9.out.on hb)
      clear hb hK9 hB9 hA9
      refine wp_region_held_drew (S := fun V => Holds V w.heap.size 33 (byteCells kh)) (by kernel_rfl) (by exact hK10.out) (fun hHeld => ?_)
      generalize W9.drew = W10 at *
      refine tkn 0 (.int .i64 0) rfl (by kernel_rfl) (fun _ _ _ h => h) (yieldsIf_move _ rfl rfl rfl) hHeld ?_
      simp only [ly, Act.put]
      refine tkn 3 (.bool true) rfl (by kernel_rfl) (fun _ _ _ h => h) (yieldsIf_move _ rfl rfl rfl) hHeld ?_
      simp only [ly, Act.put]
      refine wpAnyH_ready (rs := [1]) (by kernel_rfl) (by simp) (AllReadyH.cons rfl (fun K hK => ?_) AllReadyH.nil)
      have hK' := hid hK
      clear hK
      rw [if_pos (by kernel_rfl)]
      simp only [ly1, ly2, ly3]
      go_simp
      refine (errNum_any _ _).mono ?_
      rintro e w' ⟨rfl, rfl⟩
      refine hK'.out _ _ (by exact hK10.out) (fun hHeld => ?_)
      clear hK' K
      refine tkn 2 (.bool true) rfl (by kernel_rfl) (fun _ _ _ h => h) (.inl ⟨by kernel_rfl, fun w _ => by go_simp⟩) hHeld ?_
      simp only [ly, Act.put]
      refine tkn 4 (.bool true) rfl (by kernel_rfl) (fun _ _ _ h => h) (.inl ⟨by kernel_rfl, fun w _ => by go_simp⟩) hHeld ?_
      simp only [ly, Act.put]
      refine tkn 5 (.bool true) rfl (by kernel_rfl) (fun _ _ _ h => h) (yieldsIf_move _ rfl rfl rfl) hHeld ?_
      simp only [ly, Act.put]
      refine tkn 6 (.bool true) rfl (by kernel_rfl) (fun _ _ _ h => h) (.inl ⟨by kernel_rfl, fun w _ => by go_simp⟩) hHeld ?_
      simp only [ly, Act.put]
      refine tkn 7 (.bool true) rfl (by kernel_rfl) (fun _ _ _ h => h) (.inl ⟨by kernel_rfl, fun w _ => by go_simp⟩) hHeld ?_
      simp only [ly, Act.put]
      refine tkn 8 undef rfl (by kernel_rfl) (fun _ _ _ h => h) (.inr ⟨by kernel_rfl, rfl⟩) hHeld ?_
      simp only [ly, Act.put]
      refine tkn 9 undef rfl (by kernel_rfl) (fun _ _ _ h => h) (.inr ⟨by kernel_rfl, rfl⟩) hHeld ?_
      simp only [ly, Act.put]
      refine tkn 10 undef rfl (by kernel_rfl) (fun _ _ _ h => h) (.inr ⟨by kernel_rfl, rfl⟩) hHeld ?_
      simp only [ly, Act.put]
      refine tkn 11 (.bool true) rfl (by kernel_rfl) (fun _ _ _ h => h) (.inl ⟨by kernel_rfl, fun w _ => by go_simp⟩) hHeld ?_
      simp only [ly, Act.put]
      refine tkn 12 (.bool true) rfl (by kernel_rfl) (fun _ _ _ h => h) (yieldsIf_pick _ _ _ rfl rfl rfl rfl) hHeld ?_
      simp only [ly, Act.put]
      refine tkn 13 (.bool true) rfl (by kernel_rfl) (fun _ _ _ h => h) (yieldsIf_move _ rfl rfl rfl) hHeld ?_
      simp only [ly, Act.put]
      refine tkn 14 (.int .i64 0) rfl (by kernel_rfl) (fun _ _ _ h => h) (.inl ⟨by kernel_rfl, fun w _ => by go_simp⟩) hHeld ?_
      simp only [ly, Act.put]
      refine wpAnyH_ready (rs := [15]) (by kernel_rfl) (by simp) (AllReadyH.cons rfl (fun K hK => ?_) AllReadyH.nil)
      have hK' := hid hK
      clear hK
      rw [if_pos (by kernel_rfl)]
      simp only [ly1, ly2, ly3]
      go_simp
      refine (errNum_any _ _).mono ?_
      rintro e w' ⟨rfl, rfl⟩
      refine hK'.out _ _ (by exact hK10.out) (fun hHeld => ?_)
      clear hK' K
      refine tkn 16 (.bool true) rfl (by kernel_rfl) (fun _ _ _ h => h) (.inl ⟨by kernel_rfl, fun w _ => by go_simp⟩) hHeld ?_
      simp only [ly, Act.put]
      refine tkn 17 (.bool true) rfl (by kernel_rfl) (fun _ _ _ h => h) (yieldsIf_pick _ _ _ rfl rfl rfl rfl) hHeld ?_
      simp only [ly, Act.put]
      refine tkn 18 (.bool true) rfl (by kernel_rfl) (fun _ _ _ h => h) (yieldsIf_move _ rfl rfl rfl) hHeld ?_
      simp only [ly, Act.put]
      refine tkn 19 (.int .i64 0) rfl (by kernel_rfl) (fun _ _ _ h => h) (.inl ⟨by kernel_rfl, fun w _ => by go_simp⟩) hHeld ?_
      simp only [ly, Act.put]
      refine tkn 22 (.bool true) rfl (by kernel_rfl) (fun _ _ _ h => h) (.inl ⟨by kernel_rfl, fun w _ => by go_simp⟩) hHeld ?_
      simp only [ly, Act.put]
      refine wpAnyH_ready (rs := [20]) (by kernel_rfl) (by simp) (AllReadyH.cons rfl (fun K hK => ?_) AllReadyH.nil)
      have hK' := hid hK
      clear hK
      rw [if_pos (by kernel_rfl)]
      simp only [ly1, ly2, ly3]
      go_simp
      refine (errNum_any _ _).mono ?_
      rintro e w' ⟨rfl, rfl⟩
      refine hK'.out _ _ (by exact hK10.out) (fun hHeld => ?_)
      clear hK' K
      refine tkn 21 (.bool true) rfl (by kernel_rfl) (fun _ _ _ h => h) (.inl ⟨by kernel_rfl, fun w _ => by go_simp⟩) hHeld ?_
      simp only [ly, Act.put]
      refine tkn 23 (.bool true) rfl (by kernel_rfl) (fun _ _ _ h => h) (.inl ⟨by kernel_rfl, fun w _ => by go_simp⟩) hHeld ?_
      simp only [ly, Act.put]
      refine tkn 24 (.bool true) rfl (by kernel_rfl) (fun _ _ _ h => h) (yieldsIf_pick _ _ _ rfl rfl rfl rfl) hHeld ?_
      simp only [ly, Act.put]
      refine tkn 25 (.bool true) rfl (by kernel_rfl) (fun _ _ _ h => h) (yieldsIf_move _ rfl rfl rfl) hHeld ?_
      simp only [ly, Act.put]
      refine tkn 26 (.int .i64 0) rfl (by kernel_rfl) (fun _ _ _ h => h) (.inl ⟨by kernel_rfl, fun w _ => by go_simp⟩) hHeld ?_
      simp only [ly, Act.put]
      refine tkn 29 (.agg (byteCells kh).toArray) rfl (by kernel_rfl) (fun _ _ _ h => h) (yieldsIf_load_any (by kernel_rfl) _ _ rfl ⟨w.heap.size, 0, none⟩ rfl (byteCells kh) _ (fun V hS => hS.anyO) Try.underlying33 rfl (by exact hC2.out)) hHeld ?_
      simp only [ly, Act.put]
      refine wpAnyH_ready (rs := [27]) (by kernel_rfl) (by simp) (AllReadyH.cons rfl (fun K hK => ?_) AllReadyH.nil)
      have hK' := hid hK
      clear hK
      rw [if_pos (by kernel_rfl)]
      simp only [ly1, ly2, ly3]
      go_simp
      refine (errNum_any _ _).mono ?_
      rintro e w' ⟨rfl, rfl⟩
      refine hK'.out _ _ (by exact hK10.out) (fun hHeld => ?_)
      clear hK' K
      refine tkn 28 (.bool true) rfl (by kernel_rfl) (fun _ _ _ h => h) (.inl ⟨by kernel_rfl, fun w _ => by go_simp⟩) hHeld ?_
      simp only [ly, Act.put]
      refine wpAnyH_ready (rs := [30]) (by kernel_rfl) (by simp) (AllReadyH.cons rfl (fun K hK => ?_) AllReadyH.nil)
      have hK' := hid hK
      clear hK
      rw [if_pos (by kernel_rfl)]
      simp only [ly1, ly2, ly3]
      go_simp
      refine (hOa.out _).mono ?_
      rintro e W11 ⟨rfl, hb⟩
      have hK11 := hid (hK10.out.below hb hK10.out.lt)
      have hB11 := hid (below_up hb hB10.out)
      have hA11 := hid (hA10.out.on hb)
      clear hb hK10 hB10 hA10
      refine hK'.out _ _ (by exact hK11.out) (fun hHeld => ?_)
      clear hK' K
      refine tkn 31 (.bool true) rfl (by kernel_rfl) (fun _ _ _ h => h) (yieldsIf_zeql (by kernel_rfl) (.tmp 87) (.tmp 88) _ rfl kh la (by exact hk32.out) (by exact hla32.out) true (by exact hq'.out) rfl rfl) hHeld ?_
      simp only [ly, Act.put]
      refine tkn 32 (.bool true) rfl (by kernel_rfl) (fun _ _ _ h => h) (.inl ⟨by kernel_rfl, fun w _ => by go_simp⟩) hHeld ?_
      simp only [ly, Act.put]
      refine tkn 33 (.bool true) rfl (by kernel_rfl) (fun _ _ _ h => h) (yieldsIf_pick _ _ _ rfl rfl rfl rfl) hHeld ?_
      simp only [ly, Act.put]
      refine tkn 34 (.bool true) rfl (by kernel_rfl) (fun _ _ _ h => h) (yieldsIf_move _ rfl rfl rfl) hHeld ?_
      simp only [ly, Act.put]
      refine tkn 35 (.int .i64 0) rfl (by kernel_rfl) (fun _ _ _ h => h) (.inl ⟨by kernel_rfl, fun w _ => by go_simp⟩) hHeld ?_
      simp only [ly, Act.put]
      refine tkn 38 (.bool true) rfl (by kernel_rfl) (fun _ _ _ h => h) (.inl ⟨by kernel_rfl, fun w _ => by go_simp⟩) hHeld ?_
      simp only [ly, Act.put]
      refine wpAnyH_ready (rs := [36]) (by kernel_rfl) (by simp) (AllReadyH.cons rfl (fun K hK => ?_) AllReadyH.nil)
      have hK' := hid hK
      clear hK
      rw [if_pos (by kernel_rfl)]
      simp only [ly1, ly2, ly3]
      go_simp
      refine (errNum_any _ _).mono ?_
      rintro e w' ⟨rfl, rfl⟩
      refine hK'.out _ _ (by exact hK11.out) (fun hHeld => ?_)
      clear hK' K
      refine tkn 37 (.bool true) rfl (by kernel_rfl) (fun _ _ _ h => h) (.inl ⟨by kernel_rfl, fun w _ => by go_simp⟩) hHeld ?_
      simp only [ly, Act.put]
      refine tkn 39 (.bool true) rfl (by kernel_rfl) (fun _ _ _ h => h) (.inl ⟨by kernel_rfl, fun w _ => by go_simp⟩) hHeld ?_
      simp only [ly, Act.put]
      refine tkn 40 (.bool true) rfl (by kernel_rfl) (fun _ _ _ h => h) (yieldsIf_pick _ _ _ rfl rfl rfl rfl) hHeld ?_
      simp only [ly, Act.put]
      refine tkn 41 (.bool true) rfl (by kernel_rfl) (fun _ _ _ h => h) (yieldsIf_assign _ rfl rfl rfl) hHeld ?_
      simp only [ly, Act.put]
      refine wpAnyH_done (by kernel_rfl) ?_ _
      go_wp2_with fail
      go_ret
      exact ⟨rfl, hB11.out⟩
  · as_aux_lemma =>
      have hq' := hid hq
      have hN := hid (fun V => obNew_code most 0 (.inl ⟨m1, m2, rfl⟩) V)
      clear hq
      have hf : (4094 + (L : Int) ≤ 4096) := by omega
      go_enter Try.func5, Try.ntmps5
      go_wp2_with (first
        | ((with_reducible refine at_slot (some 5) ?_); refine wpList_run rfl (.pointer (some ⟨w.heap.size, 0, none⟩)) (w.alloc (.cells (byteCells kh).toArray 33)) (by kernel_rfl) ?_; rw [hW0'.out])
        | fail)
      refine (awake11_any _).mono ?_
      rintro e W1 ⟨rfl, hb⟩
      have hK1 := hid (hK0.out.below hb hK0.out.lt)
      have hB1 := hid (below_up hb hB0.out)
      clear hb hK0 hB0
      go_wp2_with fail
      refine (hN.out _).mono ?_
      rintro e W2 ⟨p, rfl, hb⟩
      have hK2 := hid (hK1.out.below hb hK1.out.lt)
      have hB2 := hid (below_up hb hB1.out)
      clear hb hK1 hB1
      try (rename_i hKK; refine hKK _ _ ?_; clear hKK)
      go_wp2_with fail
      refine (hN3.out _).mono ?_
      rintro e W3 ⟨rfl, hA, hb⟩
      obtain ⟨b, hbb⟩ : ∃ b, W2.heap.size = b := ⟨_, rfl⟩
      have hneK := hid (show w.heap.size ≠ b from by rw [← hbb]; have := hK2.out.lt; omega)
      have hloB := hid (show w.heap.size ≤ b from by rw [← hbb]; exact hB2.out.size)
      have hK3 := hid (hK2.out.below hb hK2.out.lt)
      have hB3 := hid (below_up hb hB2.out)
      have hA3 := hid hA
      clear hb hK2 hB2 hA
      rw [hbb] at hA3 ⊢
      clear hbb
      try (rename_i hKK; refine hKK _ _ ?_; clear hKK)
      go_wp2_with (first
        | ((with_reducible refine at_slot (some 40) ?_); refine wpList_make_zeros rfl _ _ 51 rfl 5 i0 Try.underlying51 hi hz0 hzz hby _ (4094 + L) rfl rfl (by omega) (by omega) x hx'.out ?_; intro W4 hRz hb; have hcv := run_convert_row (P := Try.prog) (w := W4) (e := 5) 51 9 Try.underlying51 Try.underlying5 Try.underlying9 hxs'.out.symm hRz; have hcv' := hid hcv; clear hcv hRz; have hK4 := hid (hK3.out.below hb hK3.out.lt); have hB4 := hid (below_up hb hB3.out); have hA4 := hid (hA3.out.on hb); clear hb hK3 hB3 hA3)
        | ((with_reducible refine at_slot (some 41) ?_); refine wpList_convert rfl 51 9 (.tmp 40) rfl _ (.string x) _ rfl (by exact hcv'.out) ?_)
        | fail)
      clear hcv'
      refine (hPut.out _ _ _ hA4.out).mono ?_
      rintro e W5 ⟨rfl, hA, hg⟩
      have hA5 := hid hA
      have hB5 := hid (hB4.out.grown hg hB4.out.size (fun i e => by have := Option.some.inj e; have := hloB.out; omega))
      have hK5 := hid (hb_neb hK4.out hg hneK.out)
      clear hA hg hA4 hB4 hK4
      try (rename_i hKK; refine hKK _ _ ?_; clear hKK)
      go_wp2_with (first
        | ((with_reducible refine at_slot (some 14) ?_); refine wpList_run rfl (.pointer (some ⟨W5.heap.size, 0, none⟩)) (W5.alloc (.cells z32 33)) (by kernel_rfl) ?_)
        | ((with_reducible refine at_slot none ?_); refine wpList_store_mid rfl 33 (.tmp 14) (.tmp 46) rfl W5.heap.size 0 (byteCells pa).toArray rfl rfl (by exact hC.out.there W5) (by exact hC.out.size) (by exact hC.out.one) ?_; generalize hW : World.setCells _ _ _ _ = W6; obtain ⟨hN, hb⟩ := hC.out.new hW; have hK6 := hid (hK5.out.below hb hK5.out.lt); have hB6 := hid (below_up hb hB5.out); have hA6 := hid (hA5.out.on hb); have hY6 := hid hN; clear hb hK5 hB5 hA5 hN; clear hW)
        | ((with_reducible refine at_slot (some 49) ?_); refine wpList_load_mid rfl 33 (.tmp 5) rfl w.heap.size 0 rfl (byteCells kh) _ (by exact h_all hK6.out) Try.underlying33 rfl (by exact hC2.out) ?_)
        | fail)
      refine (hAb.out _ _ _ hA6.out).mono ?_
      rintro e W7 ⟨rfl, hA, hg⟩
      have hA7 := hid hA
      have hB7 := hid (hB6.out.grown hg hB6.out.size (fun i e => by have := Option.some.inj e; have := hloB.out; omega))
      have hK7 := hid (hb_neb hK6.out hg hneK.out)
      clear hA hg hA6 hB6 hK6
      try (rename_i hKK; refine hKK _ _ ?_; clear hKK)
      go_wp2_with fail
      refine (hOx.out _).mono ?_
      rintro e W8 ⟨rfl, hb⟩
      have hK8 := hid (hK7.out.below hb hK7.out.lt)
      have hB8 := hid (below_up hb hB7.out)
      have hA8 := hid (hA7.out.on hb)
      clear hb hK7 hB7 hA7
      try (rename_i hKK; refine hKK _ _ ?_; clear hKK)
      go_wp2_with fail
      refine (hAx.out _ _ _ hA8.out).mono ?_
      rintro e W9 ⟨rfl, hA, hg⟩
      have hA9 := hid hA
      have hB9 := hid (hB8.out.grown hg hB8.out.size (fun i e => by have := Option.some.inj e; have := hloB.out; omega))
      have hK9 := hid (hb_neb hK8.out hg hneK.out)
      clear hA hg hA8 hB8 hK8
      try (rename_i hKK; refine hKK _ _ ?_; clear hKK)
      go_wp2_with fail
      have hb : Below W9.heap.size W9 W9.drew := (Below.refl _ _).drew
      have hK10 := hid (hK9.out.below hb hK9.out.lt)
      have hB10 := hid (below_up hb hB9.out)
      have hA10 := hid (hA9.out.on hb)
      clear hb hK9 hB9 hA9
      refine wp_region_held_drew (S := fun V => Holds V w.heap.size 33 (byteCells kh)) (by kernel_rfl) (by exact hK10.out) (fun hHeld => ?_)
      generalize W9.drew = W10 at *
      refine tkn 0 (.int .i64 0) rfl (by kernel_rfl) (fun _ _ _ h => h) (yieldsIf_move _ rfl rfl rfl) hHeld ?_
      simp only [ly, Act.put]
      refine tkn 3 (.bool true) rfl (by kernel_rfl) (fun _ _ _ h => h) (yieldsIf_move _ rfl rfl rfl) hHeld ?_
      simp only [ly, Act.put]
      refine wpAnyH_ready (rs := [1]) (by kernel_rfl) (by simp) (AllReadyH.cons rfl (fun K hK => ?_) AllReadyH.nil)
      have hK' := hid hK
      clear hK
      rw [if_pos (by kernel_rfl)]
      simp only [ly1, ly2, ly3]
      go_simp
      refine (errNum_any _ _).mono ?_
      rintro e w' ⟨rfl, rfl⟩
      refine hK'.out _ _ (by exact hK10.out) (fun hHeld => ?_)
      clear hK' K
      refine tkn 2 (.bool true) rfl (by kernel_rfl) (fun _ _ _ h => h) (.inl ⟨by kernel_rfl, fun w _ => by go_simp⟩) hHeld ?_
      simp only [ly, Act.put]
      refine tkn 4 (.bool true) rfl (by kernel_rfl) (fun _ _ _ h => h) (.inl ⟨by kernel_rfl, fun w _ => by go_simp⟩) hHeld ?_
      simp only [ly, Act.put]
      refine tkn 5 (.bool true) rfl (by kernel_rfl) (fun _ _ _ h => h) (yieldsIf_move _ rfl rfl rfl) hHeld ?_
      simp only [ly, Act.put]
      refine tkn 6 (.bool true) rfl (by kernel_rfl) (fun _ _ _ h => h) (.inl ⟨by kernel_rfl, fun w _ => by go_simp⟩) hHeld ?_
      simp only [ly, Act.put]
      refine tkn 7 (.bool true) rfl (by kernel_rfl) (fun _ _ _ h => h) (.inl ⟨by kernel_rfl, fun w _ => by go_simp⟩) hHeld ?_
      simp only [ly, Act.put]
      refine tkn 8 undef rfl (by kernel_rfl) (fun _ _ _ h => h) (.inr ⟨by kernel_rfl, rfl⟩) hHeld ?_
      simp only [ly, Act.put]
      refine tkn 9 undef rfl (by kernel_rfl) (fun _ _ _ h => h) (.inr ⟨by kernel_rfl, rfl⟩) hHeld ?_
      simp only [ly, Act.put]
      refine tkn 10 undef rfl (by kernel_rfl) (fun _ _ _ h => h) (.inr ⟨by kernel_rfl, rfl⟩) hHeld ?_
      simp only [ly, Act.put]
      refine tkn 11 (.bool true) rfl (by kernel_rfl) (fun _ _ _ h => h) (.inl ⟨by kernel_rfl, fun w _ => by go_simp⟩) hHeld ?_
      simp only [ly, Act.put]
      refine tkn 12 (.bool true) rfl (by kernel_rfl) (fun _ _ _ h => h) (yieldsIf_pick _ _ _ rfl rfl rfl rfl) hHeld ?_
      simp only [ly, Act.put]
      refine tkn 13 (.bool true) rfl (by kernel_rfl) (fun _ _ _ h => h) (yieldsIf_move _ rfl rfl rfl) hHeld ?_
      simp only [ly, Act.put]
      refine tkn 14 (.int .i64 0) rfl (by kernel_rfl) (fun _ _ _ h => h) (.inl ⟨by kernel_rfl, fun w _ => by go_simp⟩) hHeld ?_
      simp only [ly, Act.put]
      refine wpAnyH_ready (rs := [15]) (by kernel_rfl) (by simp) (AllReadyH.cons rfl (fun K hK => ?_) AllReadyH.nil)
      have hK' := hid hK
      clear hK
      rw [if_pos (by kernel_rfl)]
      simp only [ly1, ly2, ly3]
      go_simp
      refine (errNum_any _ _).mono ?_
      rintro e w' ⟨rfl, rfl⟩
      refine hK'.out _ _ (by exact hK10.out) (fun hHeld => ?_)
      clear hK' K
      refine tkn 16 (.bool true) rfl (by kernel_rfl) (fun _ _ _ h => h) (.inl ⟨by kernel_rfl, fun w _ => by go_simp⟩) hHeld ?_
      simp only [ly, Act.put]
      refine tkn 17 (.bool true) rfl (by kernel_rfl) (fun _ _ _ h => h) (yieldsIf_pick _ _ _ rfl rfl rfl rfl) hHeld ?_
      simp only [ly, Act.put]
      refine tkn 18 (.bool true) rfl (by kernel_rfl) (fun _ _ _ h => h) (yieldsIf_move _ rfl rfl rfl) hHeld ?_
      simp only [ly, Act.put]
      refine tkn 19 (.int .i64 0) rfl (by kernel_rfl) (fun _ _ _ h => h) (.inl ⟨by kernel_rfl, fun w _ => by go_simp⟩) hHeld ?_
      simp only [ly, Act.put]
      refine tkn 22 (.bool true) rfl (by kernel_rfl) (fun _ _ _ h => h) (.inl ⟨by kernel_rfl, fun w _ => by go_simp⟩) hHeld ?_
      simp only [ly, Act.put]
      refine wpAnyH_ready (rs := [20]) (by kernel_rfl) (by simp) (AllReadyH.cons rfl (fun K hK => ?_) AllReadyH.nil)
      have hK' := hid hK
      clear hK
      rw [if_pos (by kernel_rfl)]
      simp only [ly1, ly2, ly3]
      go_simp
      refine (errNum_any _ _).mono ?_
      rintro e w' ⟨rfl, rfl⟩
      refine hK'.out _ _ (by exact hK10.out) (fun hHeld => ?_)
      clear hK' K
      refine tkn 21 (.bool true) rfl (by kernel_rfl) (fun _ _ _ h => h) (.inl ⟨by kernel_rfl, fun w _ => by go_simp⟩) hHeld ?_
      simp only [ly, Act.put]
      refine tkn 23 (.bool true) rfl (by kernel_rfl) (fun _ _ _ h => h) (.inl ⟨by kernel_rfl, fun w _ => by go_simp⟩) hHeld ?_
      simp only [ly, Act.put]
      refine tkn 24 (.bool true) rfl (by kernel_rfl) (fun _ _ _ h => h) (yieldsIf_pick _ _ _ rfl rfl rfl rfl) hHeld ?_
      simp only [ly, Act.put]
      refine tkn 25 (.bool true) rfl (by kernel_rfl) (fun _ _ _ h => h) (yieldsIf_move _ rfl rfl rfl) hHeld ?_
      simp only [ly, Act.put]
      refine tkn 26 (.int .i64 1100) rfl (by kernel_rfl) (fun _ _ _ h => h) (.inl ⟨by kernel_rfl, fun w _ => by go_simp⟩) hHeld ?_
      simp only [ly, Act.put]
      refine tkn 29 (.agg (byteCells kh).toArray) rfl (by kernel_rfl) (fun _ _ _ h => h) (yieldsIf_load_any (by kernel_rfl) _ _ rfl ⟨w.heap.size, 0, none⟩ rfl (byteCells kh) _ (fun V hS => hS.anyO) Try.underlying33 rfl (by exact hC2.out)) hHeld ?_
      simp only [ly, Act.put]
      refine wpAnyH_ready (rs := [27]) (by kernel_rfl) (by simp) (AllReadyH.cons rfl (fun K hK => ?_) AllReadyH.nil)
      have hK' := hid hK
      clear hK
      rw [if_pos (by kernel_rfl)]
      simp only [ly1, ly2, ly3]
      go_simp
      refine (errNum_any _ _).mono ?_
      rintro e w' ⟨rfl, rfl⟩
      refine hK'.out _ _ (by exact hK10.out) (fun hHeld => ?_)
      clear hK' K
      refine tkn 28 (.bool false) rfl (by kernel_rfl) (fun _ _ _ h => h) (.inl ⟨by kernel_rfl, fun w _ => by go_simp⟩) hHeld ?_
      simp only [ly, Act.put]
      refine wpAnyH_ready (rs := [30]) (by kernel_rfl) (by simp) (AllReadyH.cons rfl (fun K hK => ?_) AllReadyH.nil)
      have hK' := hid hK
      clear hK
      rw [if_pos (by kernel_rfl)]
      simp only [ly1, ly2, ly3]
      go_simp
      refine (hOa.out _).mono ?_
      rintro e W11 ⟨rfl, hb⟩
      have hK11 := hid (hK10.out.below hb hK10.out.lt)
      have hB11 := hid (below_up hb hB10.out)
      have hA11 := hid (hA10.out.on hb)
      clear hb hK10 hB10 hA10
      refine hK'.out _ _ (by exact hK11.out) (fun hHeld => ?_)
      clear hK' K
      refine tkn 31 (.bool false) rfl (by kernel_rfl) (fun _ _ _ h => h) (yieldsIf_zeql (by kernel_rfl) (.tmp 87) (.tmp 88) _ rfl kh la (by exact hk32.out) (by exact hla32.out) false (by exact hq'.out) rfl rfl) hHeld ?_
      simp only [ly, Act.put]
      refine tkn 32 (.bool true) rfl (by kernel_rfl) (fun _ _ _ h => h) (.inl ⟨by kernel_rfl, fun w _ => by go_simp⟩) hHeld ?_
      simp only [ly, Act.put]
      refine tkn 33 (.bool true) rfl (by kernel_rfl) (fun _ _ _ h => h) (yieldsIf_pick _ _ _ rfl rfl rfl rfl) hHeld ?_
      simp only [ly, Act.put]
      refine tkn 34 (.bool true) rfl (by kernel_rfl) (fun _ _ _ h => h) (yieldsIf_move _ rfl rfl rfl) hHeld ?_
      simp only [ly, Act.put]
      refine tkn 35 (.int .i64 0) rfl (by kernel_rfl) (fun _ _ _ h => h) (.inl ⟨by kernel_rfl, fun w _ => by go_simp⟩) hHeld ?_
      simp only [ly, Act.put]
      refine tkn 38 (.bool true) rfl (by kernel_rfl) (fun _ _ _ h => h) (.inl ⟨by kernel_rfl, fun w _ => by go_simp⟩) hHeld ?_
      simp only [ly, Act.put]
      refine wpAnyH_ready (rs := [36]) (by kernel_rfl) (by simp) (AllReadyH.cons rfl (fun K hK => ?_) AllReadyH.nil)
      have hK' := hid hK
      clear hK
      rw [if_pos (by kernel_rfl)]
      simp only [ly1, ly2, ly3]
      go_simp
      refine (errNum_any _ _).mono ?_
      rintro e w' ⟨rfl, rfl⟩
      refine hK'.out _ _ (by exact hK11.out) (fun hHeld => ?_)
      clear hK' K
      refine tkn 37 (.bool true) rfl (by kernel_rfl) (fun _ _ _ h => h) (.inl ⟨by kernel_rfl, fun w _ => by go_simp⟩) hHeld ?_
      simp only [ly, Act.put]
      refine tkn 39 (.bool true) rfl (by kernel_rfl) (fun _ _ _ h => h) (.inl ⟨by kernel_rfl, fun w _ => by go_simp⟩) hHeld ?_
      simp only [ly, Act.put]
      refine tkn 40 (.bool true) rfl (by kernel_rfl) (fun _ _ _ h => h) (yieldsIf_pick _ _ _ rfl rfl rfl rfl) hHeld ?_
      simp only [ly, Act.put]
      refine tkn 41 (.bool true) rfl (by kernel_rfl) (fun _ _ _ h => h) (yieldsIf_assign _ rfl rfl rfl) hHeld ?_
      simp only [ly, Act.put]
      refine wpAnyH_done (by kernel_rfl) ?_ _
      go_wp2_with fail
      go_ret
      exact ⟨rfl, hB11.out⟩
  · as_aux_lemma =>
      have hq' := hid hq
      have hN := hid (fun V => obNew_code most 0 (.inl ⟨m1, m2, rfl⟩) V)
      clear hq
      have hf : ¬ (4094 + (L : Int) ≤ 4096) := by omega
      go_enter Try.func5, Try.ntmps5
      go_wp2_with (first
        | ((with_reducible refine at_slot (some 5) ?_); refine wpList_run rfl (.pointer (some ⟨w.heap.size, 0, none⟩)) (w.alloc (.cells (byteCells kh).toArray 33)) (by kernel_rfl) ?_; rw [hW0'.out])
        | fail)
      refine (awake11_any _).mono ?_
      rintro e W1 ⟨rfl, hb⟩
      have hK1 := hid (hK0.out.below hb hK0.out.lt)
      have hB1 := hid (below_up hb hB0.out)
      clear hb hK0 hB0
      go_wp2_with fail
      refine (hN.out _).mono ?_
      rintro e W2 ⟨p, rfl, hb⟩
      have hK2 := hid (hK1.out.below hb hK1.out.lt)
      have hB2 := hid (below_up hb hB1.out)
      clear hb hK1 hB1
      try (rename_i hKK; refine hKK _ _ ?_; clear hKK)
      go_wp2_with fail
      refine (hN3.out _).mono ?_
      rintro e W3 ⟨rfl, hA, hb⟩
      obtain ⟨b, hbb⟩ : ∃ b, W2.heap.size = b := ⟨_, rfl⟩
      have hneK := hid (show w.heap.size ≠ b from by rw [← hbb]; have := hK2.out.lt; omega)
      have hloB := hid (show w.heap.size ≤ b from by rw [← hbb]; exact hB2.out.size)
      have hK3 := hid (hK2.out.below hb hK2.out.lt)
      have hB3 := hid (below_up hb hB2.out)
      have hA3 := hid hA
      clear hb hK2 hB2 hA
      rw [hbb] at hA3 ⊢
      clear hbb
      try (rename_i hKK; refine hKK _ _ ?_; clear hKK)
      go_wp2_with (first
        | ((with_reducible refine at_slot (some 40) ?_); refine wpList_make_zeros rfl _ _ 51 rfl 5 i0 Try.underlying51 hi hz0 hzz hby _ (4094 + L) rfl rfl (by omega) (by omega) x hx'.out ?_; intro W4 hRz hb; have hcv := run_convert_row (P := Try.prog) (w := W4) (e := 5) 51 9 Try.underlying51 Try.underlying5 Try.underlying9 hxs'.out.symm hRz; have hcv' := hid hcv; clear hcv hRz; have hK4 := hid (hK3.out.below hb hK3.out.lt); have hB4 := hid (below_up hb hB3.out); have hA4 := hid (hA3.out.on hb); clear hb hK3 hB3 hA3)
        | ((with_reducible refine at_slot (some 41) ?_); refine wpList_convert rfl 51 9 (.tmp 40) rfl _ (.string x) _ rfl (by exact hcv'.out) ?_)
        | fail)
      clear hcv'
      refine (hPut.out _ _ _ hA4.out).mono ?_
      rintro e W5 ⟨rfl, hA, hg⟩
      have hA5 := hid hA
      have hB5 := hid (hB4.out.grown hg hB4.out.size (fun i e => by have := Option.some.inj e; have := hloB.out; omega))
      have hK5 := hid (hb_neb hK4.out hg hneK.out)
      clear hA hg hA4 hB4 hK4
      try (rename_i hKK; refine hKK _ _ ?_; clear hKK)
      go_wp2_with (first
        | ((with_reducible refine at_slot (some 14) ?_); refine wpList_run rfl (.pointer (some ⟨W5.heap.size, 0, none⟩)) (W5.alloc (.cells z32 33)) (by kernel_rfl) ?_)
        | ((with_reducible refine at_slot none ?_); refine wpList_store_mid rfl 33 (.tmp 14) (.tmp 46) rfl W5.heap.size 0 (byteCells pa).toArray rfl rfl (by exact hC.out.there W5) (by exact hC.out.size) (by exact hC.out.one) ?_; generalize hW : World.setCells _ _ _ _ = W6; obtain ⟨hN, hb⟩ := hC.out.new hW; have hK6 := hid (hK5.out.below hb hK5.out.lt); have hB6 := hid (below_up hb hB5.out); have hA6 := hid (hA5.out.on hb); have hY6 := hid hN; clear hb hK5 hB5 hA5 hN; clear hW)
        | ((with_reducible refine at_slot (some 49) ?_); refine wpList_load_mid rfl 33 (.tmp 5) rfl w.heap.size 0 rfl (byteCells kh) _ (by exact h_all hK6.out) Try.underlying33 rfl (by exact hC2.out) ?_)
        | fail)
      refine (hAb.out _ _ _ hA6.out).mono ?_
      rintro e W7 ⟨rfl, hA, hg⟩
      have hA7 := hid hA
      have hB7 := hid (hB6.out.grown hg hB6.out.size (fun i e => by have := Option.some.inj e; have := hloB.out; omega))
      have hK7 := hid (hb_neb hK6.out hg hneK.out)
      clear hA hg hA6 hB6 hK6
      try (rename_i hKK; refine hKK _ _ ?_; clear hKK)
      go_wp2_with fail
      refine (hOx.out _).mono ?_
      rintro e W8 ⟨rfl, hb⟩
      have hK8 := hid (hK7.out.below hb hK7.out.lt)
      have hB8 := hid (below_up hb hB7.out)
      have hA8 := hid (hA7.out.on hb)
      clear hb hK7 hB7 hA7
      try (rename_i hKK; refine hKK _ _ ?_; clear hKK)
      go_wp2_with fail
      refine (hAx.out _ _ _ hA8.out).mono ?_
      rintro e W9 ⟨rfl, hA, hg⟩
      have hA9 := hid hA
      have hB9 := hid (hB8.out.grown hg hB8.out.size (fun i e => by have := Option.some.inj e; have := hloB.out; omega))
      have hK9 := hid (hb_neb hK8.out hg hneK.out)
      clear hA hg hA8 hB8 hK8
      try (rename_i hKK; refine hKK _ _ ?_; clear hKK)
      go_wp2_with fail
      have hb : Below W9.heap.size W9 W9.drew := (Below.refl _ _).drew
      have hK10 := hid (hK9.out.below hb hK9.out.lt)
      have hB10 := hid (below_up hb hB9.out)
      have hA10 := hid (hA9.out.on hb)
      clear hb hK9 hB9 hA9
      refine wp_region_held_drew (S := fun V => Holds V w.heap.size 33 (byteCells kh)) (by kernel_rfl) (by exact hK10.out) (fun hHeld => ?_)
      generalize W9.drew = W10 at *
      refine tkn 0 (.int .i64 0) rfl (by kernel_rfl) (fun _ _ _ h => h) (yieldsIf_move _ rfl rfl rfl) hHeld ?_
      simp only [ly, Act.put]
      refine tkn 3 (.bool true) rfl (by kernel_rfl) (fun _ _ _ h => h) (yieldsIf_move _ rfl rfl rfl) hHeld ?_
      simp only [ly, Act.put]
      refine wpAnyH_ready (rs := [1]) (by kernel_rfl) (by simp) (AllReadyH.cons rfl (fun K hK => ?_) AllReadyH.nil)
      have hK' := hid hK
      clear hK
      rw [if_pos (by kernel_rfl)]
      simp only [ly1, ly2, ly3]
      go_simp
      refine (errNum_any _ _).mono ?_
      rintro e w' ⟨rfl, rfl⟩
      refine hK'.out _ _ (by exact hK10.out) (fun hHeld => ?_)
      clear hK' K
      refine tkn 2 (.bool true) rfl (by kernel_rfl) (fun _ _ _ h => h) (.inl ⟨by kernel_rfl, fun w _ => by go_simp⟩) hHeld ?_
      simp only [ly, Act.put]
      refine tkn 4 (.bool true) rfl (by kernel_rfl) (fun _ _ _ h => h) (.inl ⟨by kernel_rfl, fun w _ => by go_simp⟩) hHeld ?_
      simp only [ly, Act.put]
      refine tkn 5 (.bool true) rfl (by kernel_rfl) (fun _ _ _ h => h) (yieldsIf_move _ rfl rfl rfl) hHeld ?_
      simp only [ly, Act.put]
      refine tkn 6 (.bool true) rfl (by kernel_rfl) (fun _ _ _ h => h) (.inl ⟨by kernel_rfl, fun w _ => by go_simp⟩) hHeld ?_
      simp only [ly, Act.put]
      refine tkn 7 (.bool true) rfl (by kernel_rfl) (fun _ _ _ h => h) (.inl ⟨by kernel_rfl, fun w _ => by go_simp⟩) hHeld ?_
      simp only [ly, Act.put]
      refine tkn 8 undef rfl (by kernel_rfl) (fun _ _ _ h => h) (.inr ⟨by kernel_rfl, rfl⟩) hHeld ?_
      simp only [ly, Act.put]
      refine tkn 9 undef rfl (by kernel_rfl) (fun _ _ _ h => h) (.inr ⟨by kernel_rfl, rfl⟩) hHeld ?_
      simp only [ly, Act.put]
      refine tkn 10 undef rfl (by kernel_rfl) (fun _ _ _ h => h) (.inr ⟨by kernel_rfl, rfl⟩) hHeld ?_
      simp only [ly, Act.put]
      refine tkn 11 (.bool true) rfl (by kernel_rfl) (fun _ _ _ h => h) (.inl ⟨by kernel_rfl, fun w _ => by go_simp⟩) hHeld ?_
      simp only [ly, Act.put]
      refine tkn 12 (.bool true) rfl (by kernel_rfl) (fun _ _ _ h => h) (yieldsIf_pick _ _ _ rfl rfl rfl rfl) hHeld ?_
      simp only [ly, Act.put]
      refine tkn 13 (.bool true) rfl (by kernel_rfl) (fun _ _ _ h => h) (yieldsIf_move _ rfl rfl rfl) hHeld ?_
      simp only [ly, Act.put]
      refine tkn 14 (.int .i64 0) rfl (by kernel_rfl) (fun _ _ _ h => h) (.inl ⟨by kernel_rfl, fun w _ => by go_simp⟩) hHeld ?_
      simp only [ly, Act.put]
      refine wpAnyH_ready (rs := [15]) (by kernel_rfl) (by simp) (AllReadyH.cons rfl (fun K hK => ?_) AllReadyH.nil)
      have hK' := hid hK
      clear hK
      rw [if_pos (by kernel_rfl)]
      simp only [ly1, ly2, ly3]
      go_simp
      refine (errNum_any _ _).mono ?_
      rintro e w' ⟨rfl, rfl⟩
      refine hK'.out _ _ (by exact hK10.out) (fun hHeld => ?_)
      clear hK' K
      refine tkn 16 (.bool true) rfl (by kernel_rfl) (fun _ _ _ h => h) (.inl ⟨by kernel_rfl, fun w _ => by go_simp⟩) hHeld ?_
      simp only [ly, Act.put]
      refine tkn 17 (.bool true) rfl (by kernel_rfl) (fun _ _ _ h => h) (yieldsIf_pick _ _ _ rfl rfl rfl rfl) hHeld ?_
      simp only [ly, Act.put]
      refine tkn 18 (.bool true) rfl (by kernel_rfl) (fun _ _ _ h => h) (yieldsIf_move _ rfl rfl rfl) hHeld ?_
      simp only [ly, Act.put]
      refine tkn 19 (.int .i64 1100) rfl (by kernel_rfl) (fun _ _ _ h => h) (.inl ⟨by kernel_rfl, fun w _ => by go_simp⟩) hHeld ?_
      simp only [ly, Act.put]
      refine tkn 22 (.bool false) rfl (by kernel_rfl) (fun _ _ _ h => h) (.inl ⟨by kernel_rfl, fun w _ => by go_simp⟩) hHeld ?_
      simp only [ly, Act.put]
      refine wpAnyH_ready (rs := [20]) (by kernel_rfl) (by simp) (AllReadyH.cons rfl (fun K hK => ?_) AllReadyH.nil)
      have hK' := hid hK
      clear hK
      rw [if_pos (by kernel_rfl)]
      simp only [ly1, ly2, ly3]
      go_simp
      refine (errNum_any _ _).mono ?_
      rintro e w' ⟨rfl, rfl⟩
      refine hK'.out _ _ (by exact hK10.out) (fun hHeld => ?_)
      clear hK' K
      refine tkn 21 (.bool false) rfl (by kernel_rfl) (fun _ _ _ h => h) (.inl ⟨by kernel_rfl, fun w _ => by go_simp⟩) hHeld ?_
      simp only [ly, Act.put]
      refine tkn 23 (.bool true) rfl (by kernel_rfl) (fun _ _ _ h => h) (.inl ⟨by kernel_rfl, fun w _ => by go_simp⟩) hHeld ?_
      simp only [ly, Act.put]
      refine tkn 24 (.bool true) rfl (by kernel_rfl) (fun _ _ _ h => h) (yieldsIf_pick _ _ _ rfl rfl rfl rfl) hHeld ?_
      simp only [ly, Act.put]
      refine tkn 25 (.bool true) rfl (by kernel_rfl) (fun _ _ _ h => h) (yieldsIf_move _ rfl rfl rfl) hHeld ?_
      simp only [ly, Act.put]
      refine tkn 26 (.int .i64 0) rfl (by kernel_rfl) (fun _ _ _ h => h) (.inl ⟨by kernel_rfl, fun w _ => by go_simp⟩) hHeld ?_
      simp only [ly, Act.put]
      refine tkn 29 (.agg (byteCells kh).toArray) rfl (by kernel_rfl) (fun _ _ _ h => h) (yieldsIf_load_any (by kernel_rfl) _ _ rfl ⟨w.heap.size, 0, none⟩ rfl (byteCells kh) _ (fun V hS => hS.anyO) Try.underlying33 rfl (by exact hC2.out)) hHeld ?_
      simp only [ly, Act.put]
      refine wpAnyH_ready (rs := [27]) (by kernel_rfl) (by simp) (AllReadyH.cons rfl (fun K hK => ?_) AllReadyH.nil)
      have hK' := hid hK
      clear hK
      rw [if_pos (by kernel_rfl)]
      simp only [ly1, ly2, ly3]
      go_simp
      refine (errNum_any _ _).mono ?_
      rintro e w' ⟨rfl, rfl⟩
      refine hK'.out _ _ (by exact hK10.out) (fun hHeld => ?_)
      clear hK' K
      refine tkn 28 (.bool true) rfl (by kernel_rfl) (fun _ _ _ h => h) (.inl ⟨by kernel_rfl, fun w _ => by go_simp⟩) hHeld ?_
      simp only [ly, Act.put]
      refine wpAnyH_ready (rs := [30]) (by kernel_rfl) (by simp) (AllReadyH.cons rfl (fun K hK => ?_) AllReadyH.nil)
      have hK' := hid hK
      clear hK
      rw [if_pos (by kernel_rfl)]
      simp only [ly1, ly2, ly3]
      go_simp
      refine (hOa.out _).mono ?_
      rintro e W11 ⟨rfl, hb⟩
      have hK11 := hid (hK10.out.below hb hK10.out.lt)
      have hB11 := hid (below_up hb hB10.out)
      have hA11 := hid (hA10.out.on hb)
      clear hb hK10 hB10 hA10
      refine hK'.out _ _ (by exact hK11.out) (fun hHeld => ?_)
      clear hK' K
      refine tkn 31 (.bool true) rfl (by kernel_rfl) (fun _ _ _ h => h) (yieldsIf_zeql (by kernel_rfl) (.tmp 87) (.tmp 88) _ rfl kh la (by exact hk32.out) (by exact hla32.out) true (by exact hq'.out) rfl rfl) hHeld ?_
      simp only [ly, Act.put]
      refine tkn 32 (.bool true) rfl (by kernel_rfl) (fun _ _ _ h => h) (.inl ⟨by kernel_rfl, fun w _ => by go_simp⟩) hHeld ?_
      simp only [ly, Act.put]
      refine tkn 33 (.bool true) rfl (by kernel_rfl) (fun _ _ _ h => h) (yieldsIf_pick _ _ _ rfl rfl rfl rfl) hHeld ?_
      simp only [ly, Act.put]
      refine tkn 34 (.bool true) rfl (by kernel_rfl) (fun _ _ _ h => h) (yieldsIf_move _ rfl rfl rfl) hHeld ?_
      simp only [ly, Act.put]
      refine tkn 35 (.int .i64 1100) rfl (by kernel_rfl) (fun _ _ _ h => h) (.inl ⟨by kernel_rfl, fun w _ => by go_simp⟩) hHeld ?_
      simp only [ly, Act.put]
      refine tkn 38 (.bool false) rfl (by kernel_rfl) (fun _ _ _ h => h) (.inl ⟨by kernel_rfl, fun w _ => by go_simp⟩) hHeld ?_
      simp only [ly, Act.put]
      refine wpAnyH_ready (rs := [36]) (by kernel_rfl) (by simp) (AllReadyH.cons rfl (fun K hK => ?_) AllReadyH.nil)
      have hK' := hid hK
      clear hK
      rw [if_pos (by kernel_rfl)]
      simp only [ly1, ly2, ly3]
      go_simp
      refine (errNum_any _ _).mono ?_
      rintro e w' ⟨rfl, rfl⟩
      refine hK'.out _ _ (by exact hK11.out) (fun hHeld => ?_)
      clear hK' K
      refine tkn 37 (.bool false) rfl (by kernel_rfl) (fun _ _ _ h => h) (.inl ⟨by kernel_rfl, fun w _ => by go_simp⟩) hHeld ?_
      simp only [ly, Act.put]
      refine tkn 39 (.bool true) rfl (by kernel_rfl) (fun _ _ _ h => h) (.inl ⟨by kernel_rfl, fun w _ => by go_simp⟩) hHeld ?_
      simp only [ly, Act.put]
      refine tkn 40 (.bool true) rfl (by kernel_rfl) (fun _ _ _ h => h) (yieldsIf_pick _ _ _ rfl rfl rfl rfl) hHeld ?_
      simp only [ly, Act.put]
      refine tkn 41 (.bool true) rfl (by kernel_rfl) (fun _ _ _ h => h) (yieldsIf_assign _ rfl rfl rfl) hHeld ?_
      simp only [ly, Act.put]
      refine wpAnyH_done (by kernel_rfl) ?_ _
      go_wp2_with fail
      go_ret
      exact ⟨rfl, hB11.out⟩
  · as_aux_lemma =>
      have hq' := hid hq
      have hN := hid (fun V => obNew_code most 0 (.inl ⟨m1, m2, rfl⟩) V)
      clear hq
      have hf : ¬ (4094 + (L : Int) ≤ 4096) := by omega
      go_enter Try.func5, Try.ntmps5
      go_wp2_with (first
        | ((with_reducible refine at_slot (some 5) ?_); refine wpList_run rfl (.pointer (some ⟨w.heap.size, 0, none⟩)) (w.alloc (.cells (byteCells kh).toArray 33)) (by kernel_rfl) ?_; rw [hW0'.out])
        | fail)
      refine (awake11_any _).mono ?_
      rintro e W1 ⟨rfl, hb⟩
      have hK1 := hid (hK0.out.below hb hK0.out.lt)
      have hB1 := hid (below_up hb hB0.out)
      clear hb hK0 hB0
      go_wp2_with fail
      refine (hN.out _).mono ?_
      rintro e W2 ⟨p, rfl, hb⟩
      have hK2 := hid (hK1.out.below hb hK1.out.lt)
      have hB2 := hid (below_up hb hB1.out)
      clear hb hK1 hB1
      try (rename_i hKK; refine hKK _ _ ?_; clear hKK)
      go_wp2_with fail
      refine (hN3.out _).mono ?_
      rintro e W3 ⟨rfl, hA, hb⟩
      obtain ⟨b, hbb⟩ : ∃ b, W2.heap.size = b := ⟨_, rfl⟩
      have hneK := hid (show w.heap.size ≠ b from by rw [← hbb]; have := hK2.out.lt; omega)
      have hloB := hid (show w.heap.size ≤ b from by rw [← hbb]; exact hB2.out.size)
      have hK3 := hid (hK2.out.below hb hK2.out.lt)
      have hB3 := hid (below_up hb hB2.out)
      have hA3 := hid hA
      clear hb hK2 hB2 hA
      rw [hbb] at hA3 ⊢
      clear hbb
      try (rename_i hKK; refine hKK _ _ ?_; clear hKK)
      go_wp2_with (first
        | ((with_reducible refine at_slot (some 40) ?_); refine wpList_make_zeros rfl _ _ 51 rfl 5 i0 Try.underlying51 hi hz0 hzz hby _ (4094 + L) rfl rfl (by omega) (by omega) x hx'.out ?_; intro W4 hRz hb; have hcv := run_convert_row (P := Try.prog) (w := W4) (e := 5) 51 9 Try.underlying51 Try.underlying5 Try.underlying9 hxs'.out.symm hRz; have hcv' := hid hcv; clear hcv hRz; have hK4 := hid (hK3.out.below hb hK3.out.lt); have hB4 := hid (below_up hb hB3.out); have hA4 := hid (hA3.out.on hb); clear hb hK3 hB3 hA3)
        | ((with_reducible refine at_slot (some 41) ?_); refine wpList_convert rfl 51 9 (.tmp 40) rfl _ (.string x) _ rfl (by exact hcv'.out) ?_)
        | fail)
      clear hcv'
      refine (hPut.out _ _ _ hA4.out).mono ?_
      rintro e W5 ⟨rfl, hA, hg⟩
      have hA5 := hid hA
      have hB5 := hid (hB4.out.grown hg hB4.out.size (fun i e => by have := Option.some.inj e; have := hloB.out; omega))
      have hK5 := hid (hb_neb hK4.out hg hneK.out)
      clear hA hg hA4 hB4 hK4
      try (rename_i hKK; refine hKK _ _ ?_; clear hKK)
      go_wp2_with (first
        | ((with_reducible refine at_slot (some 14) ?_); refine wpList_run rfl (.pointer (some ⟨W5.heap.size, 0, none⟩)) (W5.alloc (.cells z32 33)) (by kernel_rfl) ?_)
        | ((with_reducible refine at_slot none ?_); refine wpList_store_mid rfl 33 (.tmp 14) (.tmp 46) rfl W5.heap.size 0 (byteCells pa).toArray rfl rfl (by exact hC.out.there W5) (by exact hC.out.size) (by exact hC.out.one) ?_; generalize hW : World.setCells _ _ _ _ = W6; obtain ⟨hN, hb⟩ := hC.out.new hW; have hK6 := hid (hK5.out.below hb hK5.out.lt); have hB6 := hid (below_up hb hB5.out); have hA6 := hid (hA5.out.on hb); have hY6 := hid hN; clear hb hK5 hB5 hA5 hN; clear hW)
        | ((with_reducible refine at_slot (some 49) ?_); refine wpList_load_mid rfl 33 (.tmp 5) rfl w.heap.size 0 rfl (byteCells kh) _ (by exact h_all hK6.out) Try.underlying33 rfl (by exact hC2.out) ?_)
        | fail)
      refine (hAb.out _ _ _ hA6.out).mono ?_
      rintro e W7 ⟨rfl, hA, hg⟩
      have hA7 := hid hA
      have hB7 := hid (hB6.out.grown hg hB6.out.size (fun i e => by have := Option.some.inj e; have := hloB.out; omega))
      have hK7 := hid (hb_neb hK6.out hg hneK.out)
      clear hA hg hA6 hB6 hK6
      try (rename_i hKK; refine hKK _ _ ?_; clear hKK)
      go_wp2_with fail
      refine (hOx.out _).mono ?_
      rintro e W8 ⟨rfl, hb⟩
      have hK8 := hid (hK7.out.below hb hK7.out.lt)
      have hB8 := hid (below_up hb hB7.out)
      have hA8 := hid (hA7.out.on hb)
      clear hb hK7 hB7 hA7
      try (rename_i hKK; refine hKK _ _ ?_; clear hKK)
      go_wp2_with fail
      refine (hAx.out _ _ _ hA8.out).mono ?_
      rintro e W9 ⟨rfl, hA, hg⟩
      have hA9 := hid hA
      have hB9 := hid (hB8.out.grown hg hB8.out.size (fun i e => by have := Option.some.inj e; have := hloB.out; omega))
      have hK9 := hid (hb_neb hK8.out hg hneK.out)
      clear hA hg hA8 hB8 hK8
      try (rename_i hKK; refine hKK _ _ ?_; clear hKK)
      go_wp2_with fail
      have hb : Below W9.heap.size W9 W9.drew := (Below.refl _ _).drew
      have hK10 := hid (hK9.out.below hb hK9.out.lt)
      have hB10 := hid (below_up hb hB9.out)
      have hA10 := hid (hA9.out.on hb)
      clear hb hK9 hB9 hA9
      refine wp_region_held_drew (S := fun V => Holds V w.heap.size 33 (byteCells kh)) (by kernel_rfl) (by exact hK10.out) (fun hHeld => ?_)
      generalize W9.drew = W10 at *
      refine tkn 0 (.int .i64 0) rfl (by kernel_rfl) (fun _ _ _ h => h) (yieldsIf_move _ rfl rfl rfl) hHeld ?_
      simp only [ly, Act.put]
      refine tkn 3 (.bool true) rfl (by kernel_rfl) (fun _ _ _ h => h) (yieldsIf_move _ rfl rfl rfl) hHeld ?_
      simp only [ly, Act.put]
      refine wpAnyH_ready (rs := [1]) (by kernel_rfl) (by simp) (AllReadyH.cons rfl (fun K hK => ?_) AllReadyH.nil)
      have hK' := hid hK
      clear hK
      rw [if_pos (by kernel_rfl)]
      simp only [ly1, ly2, ly3]
      go_simp
      refine (errNum_any _ _).mono ?_
      rintro e w' ⟨rfl, rfl⟩
      refine hK'.out _ _ (by exact hK10.out) (fun hHeld => ?_)
      clear hK' K
      refine tkn 2 (.bool true) rfl (by kernel_rfl) (fun _ _ _ h => h) (.inl ⟨by kernel_rfl, fun w _ => by go_simp⟩) hHeld ?_
      simp only [ly, Act.put]
      refine tkn 4 (.bool true) rfl (by kernel_rfl) (fun _ _ _ h => h) (.inl ⟨by kernel_rfl, fun w _ => by go_simp⟩) hHeld ?_
      simp only [ly, Act.put]
      refine tkn 5 (.bool true) rfl (by kernel_rfl) (fun _ _ _ h => h) (yieldsIf_move _ rfl rfl rfl) hHeld ?_
      simp only [ly, Act.put]
      refine tkn 6 (.bool true) rfl (by kernel_rfl) (fun _ _ _ h => h) (.inl ⟨by kernel_rfl, fun w _ => by go_simp⟩) hHeld ?_
      simp only [ly, Act.put]
      refine tkn 7 (.bool true) rfl (by kernel_rfl) (fun _ _ _ h => h) (.inl ⟨by kernel_rfl, fun w _ => by go_simp⟩) hHeld ?_
      simp only [ly, Act.put]
      refine tkn 8 undef rfl (by kernel_rfl) (fun _ _ _ h => h) (.inr ⟨by kernel_rfl, rfl⟩) hHeld ?_
      simp only [ly, Act.put]
      refine tkn 9 undef rfl (by kernel_rfl) (fun _ _ _ h => h) (.inr ⟨by kernel_rfl, rfl⟩) hHeld ?_
      simp only [ly, Act.put]
      refine tkn 10 undef rfl (by kernel_rfl) (fun _ _ _ h => h) (.inr ⟨by kernel_rfl, rfl⟩) hHeld ?_
      simp only [ly, Act.put]
      refine tkn 11 (.bool true) rfl (by kernel_rfl) (fun _ _ _ h => h) (.inl ⟨by kernel_rfl, fun w _ => by go_simp⟩) hHeld ?_
      simp only [ly, Act.put]
      refine tkn 12 (.bool true) rfl (by kernel_rfl) (fun _ _ _ h => h) (yieldsIf_pick _ _ _ rfl rfl rfl rfl) hHeld ?_
      simp only [ly, Act.put]
      refine tkn 13 (.bool true) rfl (by kernel_rfl) (fun _ _ _ h => h) (yieldsIf_move _ rfl rfl rfl) hHeld ?_
      simp only [ly, Act.put]
      refine tkn 14 (.int .i64 0) rfl (by kernel_rfl) (fun _ _ _ h => h) (.inl ⟨by kernel_rfl, fun w _ => by go_simp⟩) hHeld ?_
      simp only [ly, Act.put]
      refine wpAnyH_ready (rs := [15]) (by kernel_rfl) (by simp) (AllReadyH.cons rfl (fun K hK => ?_) AllReadyH.nil)
      have hK' := hid hK
      clear hK
      rw [if_pos (by kernel_rfl)]
      simp only [ly1, ly2, ly3]
      go_simp
      refine (errNum_any _ _).mono ?_
      rintro e w' ⟨rfl, rfl⟩
      refine hK'.out _ _ (by exact hK10.out) (fun hHeld => ?_)
      clear hK' K
      refine tkn 16 (.bool true) rfl (by kernel_rfl) (fun _ _ _ h => h) (.inl ⟨by kernel_rfl, fun w _ => by go_simp⟩) hHeld ?_
      simp only [ly, Act.put]
      refine tkn 17 (.bool true) rfl (by kernel_rfl) (fun _ _ _ h => h) (yieldsIf_pick _ _ _ rfl rfl rfl rfl) hHeld ?_
      simp only [ly, Act.put]
      refine tkn 18 (.bool true) rfl (by kernel_rfl) (fun _ _ _ h => h) (yieldsIf_move _ rfl rfl rfl) hHeld ?_
      simp only [ly, Act.put]
      refine tkn 19 (.int .i64 1100) rfl (by kernel_rfl) (fun _ _ _ h => h) (.inl ⟨by kernel_rfl, fun w _ => by go_simp⟩) hHeld ?_
      simp only [ly, Act.put]
      refine tkn 22 (.bool false) rfl (by kernel_rfl) (fun _ _ _ h => h) (.inl ⟨by kernel_rfl, fun w _ => by go_simp⟩) hHeld ?_
      simp only [ly, Act.put]
      refine wpAnyH_ready (rs := [20]) (by kernel_rfl) (by simp) (AllReadyH.cons rfl (fun K hK => ?_) AllReadyH.nil)
      have hK' := hid hK
      clear hK
      rw [if_pos (by kernel_rfl)]
      simp only [ly1, ly2, ly3]
      go_simp
      refine (errNum_any _ _).mono ?_
      rintro e w' ⟨rfl, rfl⟩
      refine hK'.out _ _ (by exact hK10.out) (fun hHeld => ?_)
      clear hK' K
      refine tkn 21 (.bool false) rfl (by kernel_rfl) (fun _ _ _ h => h) (.inl ⟨by kernel_rfl, fun w _ => by go_simp⟩) hHeld ?_
      simp only [ly, Act.put]
      refine tkn 23 (.bool true) rfl (by kernel_rfl) (fun _ _ _ h => h) (.inl ⟨by kernel_rfl, fun w _ => by go_simp⟩) hHeld ?_
      simp only [ly, Act.put]
      refine tkn 24 (.bool true) rfl (by kernel_rfl) (fun _ _ _ h => h) (yieldsIf_pick _ _ _ rfl rfl rfl rfl) hHeld ?_
      simp only [ly, Act.put]
      refine tkn 25 (.bool true) rfl (by kernel_rfl) (fun _ _ _ h => h) (yieldsIf_move _ rfl rfl rfl) hHeld ?_
      simp only [ly, Act.put]
      refine tkn 26 (.int .i64 1100) rfl (by kernel_rfl) (fun _ _ _ h => h) (.inl ⟨by kernel_rfl, fun w _ => by go_simp⟩) hHeld ?_
      simp only [ly, Act.put]
      refine tkn 29 (.agg (byteCells kh).toArray) rfl (by kernel_rfl) (fun _ _ _ h => h) (yieldsIf_load_any (by kernel_rfl) _ _ rfl ⟨w.heap.size, 0, none⟩ rfl (byteCells kh) _ (fun V hS => hS.anyO) Try.underlying33 rfl (by exact hC2.out)) hHeld ?_
      simp only [ly, Act.put]
      refine wpAnyH_ready (rs := [27]) (by kernel_rfl) (by simp) (AllReadyH.cons rfl (fun K hK => ?_) AllReadyH.nil)
      have hK' := hid hK
      clear hK
      rw [if_pos (by kernel_rfl)]
      simp only [ly1, ly2, ly3]
      go_simp
      refine (errNum_any _ _).mono ?_
      rintro e w' ⟨rfl, rfl⟩
      refine hK'.out _ _ (by exact hK10.out) (fun hHeld => ?_)
      clear hK' K
      refine tkn 28 (.bool false) rfl (by kernel_rfl) (fun _ _ _ h => h) (.inl ⟨by kernel_rfl, fun w _ => by go_simp⟩) hHeld ?_
      simp only [ly, Act.put]
      refine wpAnyH_ready (rs := [30]) (by kernel_rfl) (by simp) (AllReadyH.cons rfl (fun K hK => ?_) AllReadyH.nil)
      have hK' := hid hK
      clear hK
      rw [if_pos (by kernel_rfl)]
      simp only [ly1, ly2, ly3]
      go_simp
      refine (hOa.out _).mono ?_
      rintro e W11 ⟨rfl, hb⟩
      have hK11 := hid (hK10.out.below hb hK10.out.lt)
      have hB11 := hid (below_up hb hB10.out)
      have hA11 := hid (hA10.out.on hb)
      clear hb hK10 hB10 hA10
      refine hK'.out _ _ (by exact hK11.out) (fun hHeld => ?_)
      clear hK' K
      refine tkn 31 (.bool false) rfl (by kernel_rfl) (fun _ _ _ h => h) (yieldsIf_zeql (by kernel_rfl) (.tmp 87) (.tmp 88) _ rfl kh la (by exact hk32.out) (by exact hla32.out) false (by exact hq'.out) rfl rfl) hHeld ?_
      simp only [ly, Act.put]
      refine tkn 32 (.bool true) rfl (by kernel_rfl) (fun _ _ _ h => h) (.inl ⟨by kernel_rfl, fun w _ => by go_simp⟩) hHeld ?_
      simp only [ly, Act.put]
      refine tkn 33 (.bool true) rfl (by kernel_rfl) (fun _ _ _ h => h) (yieldsIf_pick _ _ _ rfl rfl rfl rfl) hHeld ?_
      simp only [ly, Act.put]
      refine tkn 34 (.bool true) rfl (by kernel_rfl) (fun _ _ _ h => h) (yieldsIf_move _ rfl rfl rfl) hHeld ?_
      simp only [ly, Act.put]
      refine tkn 35 (.int .i64 1100) rfl (by kernel_rfl) (fun _ _ _ h => h) (.inl ⟨by kernel_rfl, fun w _ => by go_simp⟩) hHeld ?_
      simp only [ly, Act.put]
      refine tkn 38 (.bool false) rfl (by kernel_rfl) (fun _ _ _ h => h) (.inl ⟨by kernel_rfl, fun w _ => by go_simp⟩) hHeld ?_
      simp only [ly, Act.put]
      refine wpAnyH_ready (rs := [36]) (by kernel_rfl) (by simp) (AllReadyH.cons rfl (fun K hK => ?_) AllReadyH.nil)
      have hK' := hid hK
      clear hK
      rw [if_pos (by kernel_rfl)]
      simp only [ly1, ly2, ly3]
      go_simp
      refine (errNum_any _ _).mono ?_
      rintro e w' ⟨rfl, rfl⟩
      refine hK'.out _ _ (by exact hK11.out) (fun hHeld => ?_)
      clear hK' K
      refine tkn 37 (.bool false) rfl (by kernel_rfl) (fun _ _ _ h => h) (.inl ⟨by kernel_rfl, fun w _ => by go_simp⟩) hHeld ?_
      simp only [ly, Act.put]
      refine tkn 39 (.bool true) rfl (by kernel_rfl) (fun _ _ _ h => h) (.inl ⟨by kernel_rfl, fun w _ => by go_simp⟩) hHeld ?_
      simp only [ly, Act.put]
      refine tkn 40 (.bool true) rfl (by kernel_rfl) (fun _ _ _ h => h) (yieldsIf_pick _ _ _ rfl rfl rfl rfl) hHeld ?_
      simp only [ly, Act.put]
      refine tkn 41 (.bool true) rfl (by kernel_rfl) (fun _ _ _ h => h) (yieldsIf_assign _ rfl rfl rfl) hHeld ?_
      simp only [ly, Act.put]
      refine wpAnyH_done (by kernel_rfl) ?_ _
      go_wp2_with fail
      go_ret
      exact ⟨rfl, hB11.out⟩
  · as_aux_lemma =>
      have hq' := hid hq
      have hN := hid (fun V => obNew_code most 1100 (.inr ⟨fun h => m1 h.1, rfl⟩) V)
      clear hq
      have hf : (4094 + (L : Int) ≤ 4096) := by omega
      go_enter Try.func5, Try.ntmps5
      go_wp2_with (first
        | ((with_reducible refine at_slot (some 5) ?_); refine wpList_run rfl (.pointer (some ⟨w.heap.size, 0, none⟩)) (w.alloc (.cells (byteCells kh).toArray 33)) (by kernel_rfl) ?_; rw [hW0'.out])
        | fail)
      refine (awake11_any _).mono ?_
      rintro e W1 ⟨rfl, hb⟩
      have hK1 := hid (hK0.out.below hb hK0.out.lt)
      have hB1 := hid (below_up hb hB0.out)
      clear hb hK0 hB0
      go_wp2_with fail
      refine (hN.out _).mono ?_
      rintro e W2 ⟨p, rfl, hb⟩
      have hK2 := hid (hK1.out.below hb hK1.out.lt)
      have hB2 := hid (below_up hb hB1.out)
      clear hb hK1 hB1
      try (rename_i hKK; refine hKK _ _ ?_; clear hKK)
      go_wp2_with fail
      refine (hN3.out _).mono ?_
      rintro e W3 ⟨rfl, hA, hb⟩
      obtain ⟨b, hbb⟩ : ∃ b, W2.heap.size = b := ⟨_, rfl⟩
      have hneK := hid (show w.heap.size ≠ b from by rw [← hbb]; have := hK2.out.lt; omega)
      have hloB := hid (show w.heap.size ≤ b from by rw [← hbb]; exact hB2.out.size)
      have hK3 := hid (hK2.out.below hb hK2.out.lt)
      have hB3 := hid (below_up hb hB2.out)
      have hA3 := hid hA
      clear hb hK2 hB2 hA
      rw [hbb] at hA3 ⊢
      clear hbb
      try (rename_i hKK; refine hKK _ _ ?_; clear hKK)
      go_wp2_with (first
        | ((with_reducible refine at_slot (some 40) ?_); refine wpList_make_zeros rfl _ _ 51 rfl 5 i0 Try.underlying51 hi hz0 hzz hby _ (4094 + L) rfl rfl (by omega) (by omega) x hx'.out ?_; intro W4 hRz hb; have hcv := run_convert_row (P := Try.prog) (w := W4) (e := 5) 51 9 Try.underlying51 Try.underlying5 Try.underlying9 hxs'.out.symm hRz; have hcv' := hid hcv; clear hcv hRz; have hK4 := hid (hK3.out.below hb hK3.out.lt); have hB4 := hid (below_up hb hB3.out); have hA4 := hid (hA3.out.on hb); clear hb hK3 hB3 hA3)
        | ((with_reducible refine at_slot (some 41) ?_); refine wpList_convert rfl 51 9 (.tmp 40) rfl _ (.string x) _ rfl (by exact hcv'.out) ?_)
        | fail)
      clear hcv'
      refine (hPut.out _ _ _ hA4.out).mono ?_
      rintro e W5 ⟨rfl, hA, hg⟩
      have hA5 := hid hA
      have hB5 := hid (hB4.out.grown hg hB4.out.size (fun i e => by have := Option.some.inj e; have := hloB.out; omega))
      have hK5 := hid (hb_neb hK4.out hg hneK.out)
      clear hA hg hA4 hB4 hK4
      try (rename_i hKK; refine hKK _ _ ?_; clear hKK)
      go_wp2_with (first
        | ((with_reducible refine at_slot (some 14) ?_); refine wpList_run rfl (.pointer (some ⟨W5.heap.size, 0, none⟩)) (W5.alloc (.cells z32 33)) (by kernel_rfl) ?_)
        | ((with_reducible refine at_slot none ?_); refine wpList_store_mid rfl 33 (.tmp 14) (.tmp 46) rfl W5.heap.size 0 (byteCells pa).toArray rfl rfl (by exact hC.out.there W5) (by exact hC.out.size) (by exact hC.out.one) ?_; generalize hW : World.setCells _ _ _ _ = W6; obtain ⟨hN, hb⟩ := hC.out.new hW; have hK6 := hid (hK5.out.below hb hK5.out.lt); have hB6 := hid (below_up hb hB5.out); have hA6 := hid (hA5.out.on hb); have hY6 := hid hN; clear hb hK5 hB5 hA5 hN; clear hW)
        | ((with_reducible refine at_slot (some 49) ?_); refine wpList_load_mid rfl 33 (.tmp 5) rfl w.heap.size 0 rfl (byteCells kh) _ (by exact h_all hK6.out) Try.underlying33 rfl (by exact hC2.out) ?_)
        | fail)
      refine (hAb.out _ _ _ hA6.out).mono ?_
      rintro e W7 ⟨rfl, hA, hg⟩
      have hA7 := hid hA
      have hB7 := hid (hB6.out.grown hg hB6.out.size (fun i e => by have := Option.some.inj e; have := hloB.out; omega))
      have hK7 := hid (hb_neb hK6.out hg hneK.out)
      clear hA hg hA6 hB6 hK6
      try (rename_i hKK; refine hKK _ _ ?_; clear hKK)
      go_wp2_with fail
      refine (hOx.out _).mono ?_
      rintro e W8 ⟨rfl, hb⟩
      have hK8 := hid (hK7.out.below hb hK7.out.lt)
      have hB8 := hid (below_up hb hB7.out)
      have hA8 := hid (hA7.out.on hb)
      clear hb hK7 hB7 hA7
      try (rename_i hKK; refine hKK _ _ ?_; clear hKK)
      go_wp2_with fail
      refine (hAx.out _ _ _ hA8.out).mono ?_
      rintro e W9 ⟨rfl, hA, hg⟩
      have hA9 := hid hA
      have hB9 := hid (hB8.out.grown hg hB8.out.size (fun i e => by have := Option.some.inj e; have := hloB.out; omega))
      have hK9 := hid (hb_neb hK8.out hg hneK.out)
      clear hA hg hA8 hB8 hK8
      try (rename_i hKK; refine hKK _ _ ?_; clear hKK)
      go_wp2_with fail
      have hb : Below W9.heap.size W9 W9.drew := (Below.refl _ _).drew
      have hK10 := hid (hK9.out.below hb hK9.out.lt)
      have hB10 := hid (below_up hb hB9.out)
      have hA10 := hid (hA9.out.on hb)
      clear hb hK9 hB9 hA9
      refine wp_region_held_drew (S := fun V => Holds V w.heap.size 33 (byteCells kh)) (by kernel_rfl) (by exact hK10.out) (fun hHeld => ?_)
      generalize W9.drew = W10 at *
      refine tkn 0 (.int .i64 1100) rfl (by kernel_rfl) (fun _ _ _ h => h) (yieldsIf_move _ rfl rfl rfl) hHeld ?_
      simp only [ly, Act.put]
      refine tkn 3 (.bool false) rfl (by kernel_rfl) (fun _ _ _ h => h) (yieldsIf_move _ rfl rfl rfl) hHeld ?_
      simp only [ly, Act.put]
      refine wpAnyH_ready (rs := [1]) (by kernel_rfl) (by simp) (AllReadyH.cons rfl (fun K hK => ?_) AllReadyH.nil)
      have hK' := hid hK
      clear hK
      rw [if_pos (by kernel_rfl)]
      simp only [ly1, ly2, ly3]
      go_simp
      refine (errNum_any _ _).mono ?_
      rintro e w' ⟨rfl, rfl⟩
      refine hK'.out _ _ (by exact hK10.out) (fun hHeld => ?_)
      clear hK' K
      refine tkn 2 (.bool false) rfl (by kernel_rfl) (fun _ _ _ h => h) (.inl ⟨by kernel_rfl, fun w _ => by go_simp⟩) hHeld ?_
      simp only [ly, Act.put]
      refine tkn 4 (.bool true) rfl (by kernel_rfl) (fun _ _ _ h => h) (.inl ⟨by kernel_rfl, fun w _ => by go_simp⟩) hHeld ?_
      simp only [ly, Act.put]
      refine tkn 5 (.bool true) rfl (by kernel_rfl) (fun _ _ _ h => h) (yieldsIf_move _ rfl rfl rfl) hHeld ?_
      simp only [ly, Act.put]
      refine tkn 6 (.bool false) rfl (by kernel_rfl) (fun _ _ _ h => h) (.inl ⟨by kernel_rfl, fun w _ => by go_simp⟩) hHeld ?_
      simp only [ly, Act.put]
      refine tkn 7 (.bool false) rfl (by kernel_rfl) (fun _ _ _ h => h) (.inl ⟨by kernel_rfl, fun w _ => by go_simp⟩) hHeld ?_
      simp only [ly, Act.put]
      refine tkn 8 (.int .i64 1100) rfl (by kernel_rfl) (fun _ _ _ h => h) (.inl ⟨by kernel_rfl, fun w _ => by go_simp⟩) hHeld ?_
      simp only [ly, Act.put]
      refine wpAnyH_ready (rs := [9]) (by kernel_rfl) (by simp) (AllReadyH.cons rfl (fun K hK => ?_) AllReadyH.nil)
      have hK' := hid hK
      clear hK
      rw [if_pos (by kernel_rfl)]
      simp only [ly1, ly2, ly3]
      go_simp
      refine (errNum_any _ _).mono ?_
      rintro e w' ⟨rfl, rfl⟩
      refine hK'.out _ _ (by exact hK10.out) (fun hHeld => ?_)
      clear hK' K
      refine tkn 10 (.bool true) rfl (by kernel_rfl) (fun _ _ _ h => h) (.inl ⟨by kernel_rfl, fun w _ => by go_simp⟩) hHeld ?_
      simp only [ly, Act.put]
      refine tkn 11 (.bool true) rfl (by kernel_rfl) (fun _ _ _ h => h) (.inl ⟨by kernel_rfl, fun w _ => by go_simp⟩) hHeld ?_
      simp only [ly, Act.put]
      refine tkn 12 (.bool true) rfl (by kernel_rfl) (fun _ _ _ h => h) (yieldsIf_pick _ _ _ rfl rfl rfl rfl) hHeld ?_
      simp only [ly, Act.put]
      refine tkn 13 (.bool true) rfl (by kernel_rfl) (fun _ _ _ h => h) (yieldsIf_move _ rfl rfl rfl) hHeld ?_
      simp only [ly, Act.put]
      refine tkn 14 (.int .i64 0) rfl (by kernel_rfl) (fun _ _ _ h => h) (.inl ⟨by kernel_rfl, fun w _ => by go_simp⟩) hHeld ?_
      simp only [ly, Act.put]
      refine wpAnyH_ready (rs := [15]) (by kernel_rfl) (by simp) (AllReadyH.cons rfl (fun K hK => ?_) AllReadyH.nil)
      have hK' := hid hK
      clear hK
      rw [if_pos (by kernel_rfl)]
      simp only [ly1, ly2, ly3]
      go_simp
      refine (errNum_any _ _).mono ?_
      rintro e w' ⟨rfl, rfl⟩
      refine hK'.out _ _ (by exact hK10.out) (fun hHeld => ?_)
      clear hK' K
      refine tkn 16 (.bool true) rfl (by kernel_rfl) (fun _ _ _ h => h) (.inl ⟨by kernel_rfl, fun w _ => by go_simp⟩) hHeld ?_
      simp only [ly, Act.put]
      refine tkn 17 (.bool true) rfl (by kernel_rfl) (fun _ _ _ h => h) (yieldsIf_pick _ _ _ rfl rfl rfl rfl) hHeld ?_
      simp only [ly, Act.put]
      refine tkn 18 (.bool true) rfl (by kernel_rfl) (fun _ _ _ h => h) (yieldsIf_move _ rfl rfl rfl) hHeld ?_
      simp only [ly, Act.put]
      refine tkn 19 (.int .i64 0) rfl (by kernel_rfl) (fun _ _ _ h => h) (.inl ⟨by kernel_rfl, fun w _ => by go_simp⟩) hHeld ?_
      simp only [ly, Act.put]
      refine tkn 22 (.bool true) rfl (by kernel_rfl) (fun _ _ _ h => h) (.inl ⟨by kernel_rfl, fun w _ => by go_simp⟩) hHeld ?_
      simp only [ly, Act.put]
      refine wpAnyH_ready (rs := [20]) (by kernel_rfl) (by simp) (AllReadyH.cons rfl (fun K hK => ?_) AllReadyH.nil)
      have hK' := hid hK
      clear hK
      rw [if_pos (by kernel_rfl)]
      simp only [ly1, ly2, ly3]
      go_simp
      refine (errNum_any _ _).mono ?_
      rintro e w' ⟨rfl, rfl⟩
      refine hK'.out _ _ (by exact hK10.out) (fun hHeld => ?_)
      clear hK' K
      refine tkn 21 (.bool true) rfl (by kernel_rfl) (fun _ _ _ h => h) (.inl ⟨by kernel_rfl, fun w _ => by go_simp⟩) hHeld ?_
      simp only [ly, Act.put]
      refine tkn 23 (.bool true) rfl (by kernel_rfl) (fun _ _ _ h => h) (.inl ⟨by kernel_rfl, fun w _ => by go_simp⟩) hHeld ?_
      simp only [ly, Act.put]
      refine tkn 24 (.bool true) rfl (by kernel_rfl) (fun _ _ _ h => h) (yieldsIf_pick _ _ _ rfl rfl rfl rfl) hHeld ?_
      simp only [ly, Act.put]
      refine tkn 25 (.bool true) rfl (by kernel_rfl) (fun _ _ _ h => h) (yieldsIf_move _ rfl rfl rfl) hHeld ?_
      simp only [ly, Act.put]
      refine tkn 26 (.int .i64 0) rfl (by kernel_rfl) (fun _ _ _ h => h) (.inl ⟨by kernel_rfl, fun w _ => by go_simp⟩) hHeld ?_
      simp only [ly, Act.put]
      refine tkn 29 (.agg (byteCells kh).toArray) rfl (by kernel_rfl) (fun _ _ _ h => h) (yieldsIf_load_any (by kernel_rfl) _ _ rfl ⟨w.heap.size, 0, none⟩ rfl (byteCells kh) _ (fun V hS => hS.anyO) Try.underlying33 rfl (by exact hC2.out)) hHeld ?_
      simp only [ly, Act.put]
      refine wpAnyH_ready (rs := [27]) (by kernel_rfl) (by simp) (AllReadyH.cons rfl (fun K hK => ?_) AllReadyH.nil)
      have hK' := hid hK
      clear hK
      rw [if_pos (by kernel_rfl)]
      simp only [ly1, ly2, ly3]
      go_simp
      refine (errNum_any _ _).mono ?_
      rintro e w' ⟨rfl, rfl⟩
      refine hK'.out _ _ (by exact hK10.out) (fun hHeld => ?_)
      clear hK' K
      refine tkn 28 (.bool true) rfl (by kernel_rfl) (fun _ _ _ h => h) (.inl ⟨by kernel_rfl, fun w _ => by go_simp⟩) hHeld ?_
      simp only [ly, Act.put]
      refine wpAnyH_ready (rs := [30]) (by kernel_rfl) (by simp) (AllReadyH.cons rfl (fun K hK => ?_) AllReadyH.nil)
      have hK' := hid hK
      clear hK
      rw [if_pos (by kernel_rfl)]
      simp only [ly1, ly2, ly3]
      go_simp
      refine (hOa.out _).mono ?_
      rintro e W11 ⟨rfl, hb⟩
      have hK11 := hid (hK10.out.below hb hK10.out.lt)
      have hB11 := hid (below_up hb hB10.out)
      have hA11 := hid (hA10.out.on hb)
      clear hb hK10 hB10 hA10
      refine hK'.out _ _ (by exact hK11.out) (fun hHeld => ?_)
      clear hK' K
      refine tkn 31 (.bool true) rfl (by kernel_rfl) (fun _ _ _ h => h) (yieldsIf_zeql (by kernel_rfl) (.tmp 87) (.tmp 88) _ rfl kh la (by exact hk32.out) (by exact hla32.out) true (by exact hq'.out) rfl rfl) hHeld ?_
      simp only [ly, Act.put]
      refine tkn 32 (.bool true) rfl (by kernel_rfl) (fun _ _ _ h => h) (.inl ⟨by kernel_rfl, fun w _ => by go_simp⟩) hHeld ?_
      simp only [ly, Act.put]
      refine tkn 33 (.bool true) rfl (by kernel_rfl) (fun _ _ _ h => h) (yieldsIf_pick _ _ _ rfl rfl rfl rfl) hHeld ?_
      simp only [ly, Act.put]
      refine tkn 34 (.bool true) rfl (by kernel_rfl) (fun _ _ _ h => h) (yieldsIf_move _ rfl rfl rfl) hHeld ?_
      simp only [ly, Act.put]
      refine tkn 35 (.int .i64 0) rfl (by kernel_rfl) (fun _ _ _ h => h) (.inl ⟨by kernel_rfl, fun w _ => by go_simp⟩) hHeld ?_
      simp only [ly, Act.put]
      refine tkn 38 (.bool true) rfl (by kernel_rfl) (fun _ _ _ h => h) (.inl ⟨by kernel_rfl, fun w _ => by go_simp⟩) hHeld ?_
      simp only [ly, Act.put]
      refine wpAnyH_ready (rs := [36]) (by kernel_rfl) (by simp) (AllReadyH.cons rfl (fun K hK => ?_) AllReadyH.nil)
      have hK' := hid hK
      clear hK
      rw [if_pos (by kernel_rfl)]
      simp only [ly1, ly2, ly3]
      go_simp
      refine (errNum_any _ _).mono ?_
      rintro e w' ⟨rfl, rfl⟩
      refine hK'.out _ _ (by exact hK11.out) (fun hHeld => ?_)
      clear hK' K
      refine tkn 37 (.bool true) rfl (by kernel_rfl) (fun _ _ _ h => h) (.inl ⟨by kernel_rfl, fun w _ => by go_simp⟩) hHeld ?_
      simp only [ly, Act.put]
      refine tkn 39 (.bool true) rfl (by kernel_rfl) (fun _ _ _ h => h) (.inl ⟨by kernel_rfl, fun w _ => by go_simp⟩) hHeld ?_
      simp only [ly, Act.put]
      refine tkn 40 (.bool true) rfl (by kernel_rfl) (fun _ _ _ h => h) (yieldsIf_pick _ _ _ rfl rfl rfl rfl) hHeld ?_
      simp only [ly, Act.put]
      refine tkn 41 (.bool true) rfl (by kernel_rfl) (fun _ _ _ h => h) (yieldsIf_assign _ rfl rfl rfl) hHeld ?_
      simp only [ly, Act.put]
      refine wpAnyH_done (by kernel_rfl) ?_ _
      go_wp2_with fail
      go_ret
      exact ⟨rfl, hB11.out⟩
  · as_aux_lemma =>
      have hq' := hid hq
      have hN := hid (fun V => obNew_code most 1100 (.inr ⟨fun h => m1 h.1, rfl⟩) V)
      clear hq
      have hf : (4094 + (L : Int) ≤ 4096) := by omega
      go_enter Try.func5, Try.ntmps5
      go_wp2_with (first
        | ((with_reducible refine at_slot (some 5) ?_); refine wpList_run rfl (.pointer (some ⟨w.heap.size, 0, none⟩)) (w.alloc (.cells (byteCells kh).toArray 33)) (by kernel_rfl) ?_; rw [hW0'.out])
        | fail)
      refine (awake11_any _).mono ?_
      rintro e W1 ⟨rfl, hb⟩
      have hK1 := hid (hK0.out.below hb hK0.out.lt)
      have hB1 := hid (below_up hb hB0.out)
      clear hb hK0 hB0
      go_wp2_with fail
      refine (hN.out _).mono ?_
      rintro e W2 ⟨p, rfl, hb⟩
      have hK2 := hid (hK1.out.below hb hK1.out.lt)
      have hB2 := hid (below_up hb hB1.out)
      clear hb hK1 hB1
      try (rename_i hKK; refine hKK _ _ ?_; clear hKK)
      go_wp2_with fail
      refine (hN3.out _).mono ?_
      rintro e W3 ⟨rfl, hA, hb⟩
      obtain ⟨b, hbb⟩ : ∃ b, W2.heap.size = b := ⟨_, rfl⟩
      have hneK := hid (show w.heap.size ≠ b from by rw [← hbb]; have := hK2.out.lt; omega)
      have hloB := hid (show w.heap.size ≤ b from by rw [← hbb]; exact hB2.out.size)
      have hK3 := hid (hK2.out.below hb hK2.out.lt)
      have hB3 := hid (below_up hb hB2.out)
      have hA3 := hid hA
      clear hb hK2 hB2 hA
      rw [hbb] at hA3 ⊢
      clear hbb
      try (rename_i hKK; refine hKK _ _ ?_; clear hKK)
      go_wp2_with (first
        | ((with_reducible refine at_slot (some 40) ?_); refine wpList_make_zeros rfl _ _ 51 rfl 5 i0 Try.underlying51 hi hz0 hzz hby _ (4094 + L) rfl rfl (by omega) (by omega) x hx'.out ?_; intro W4 hRz hb; have hcv := run_convert_row (P := Try.prog) (w := W4) (e := 5) 51 9 Try.underlying51 Try.underlying5 Try.underlying9 hxs'.out.symm hRz; have hcv' := hid hcv; clear hcv hRz; have hK4 := hid (hK3.out.below hb hK3.out.lt); have hB4 := hid (below_up hb hB3.out); have hA4 := hid (hA3.out.on hb); clear hb hK3 hB3 hA3)
        | ((with_reducible refine at_slot (some 41) ?_); refine wpList_convert rfl 51 9 (.tmp 40) rfl _ (.string x) _ rfl (by exact hcv'.out) ?_)
        | fail)
      clear hcv'
      refine (hPut.out _ _ _ hA4.out).mono ?_
      rintro e W5 ⟨rfl, hA, hg⟩
      have hA5 := hid hA
      have hB5 := hid (hB4.out.grown hg hB4.out.size (fun i e => by have := Option.some.inj e; have := hloB.out; omega))
      have hK5 := hid (hb_neb hK4.out hg hneK.out)
      clear hA hg hA4 hB4 hK4
      try (rename_i hKK; refine hKK _ _ ?_; clear hKK)
      go_wp2_with (first
        | ((with_reducible refine at_slot (some 14) ?_); refine wpList_run rfl (.pointer (some ⟨W5.heap.size, 0, none⟩)) (W5.alloc (.cells z32 33)) (by kernel_rfl) ?_)
        | ((with_reducible refine at_slot none ?_); refine wpList_store_mid rfl 33 (.tmp 14) (.tmp 46) rfl W5.heap.size 0 (byteCells pa).toArray rfl rfl (by exact hC.out.there W5) (by exact hC.out.size) (by exact hC.out.one) ?_; generalize hW : World.setCells _ _ _ _ = W6; obtain ⟨hN, hb⟩ := hC.out.new hW; have hK6 := hid (hK5.out.below hb hK5.out.lt); have hB6 := hid (below_up hb hB5.out); have hA6 := hid (hA5.out.on hb); have hY6 := hid hN; clear hb hK5 hB5 hA5 hN; clear hW)
        | ((with_reducible refine at_slot (some 49) ?_); refine wpList_load_mid rfl 33 (.tmp 5) rfl w.heap.size 0 rfl (byteCells kh) _ (by exact h_all hK6.out) Try.underlying33 rfl (by exact hC2.out) ?_)
        | fail)
      refine (hAb.out _ _ _ hA6.out).mono ?_
      rintro e W7 ⟨rfl, hA, hg⟩
      have hA7 := hid hA
      have hB7 := hid (hB6.out.grown hg hB6.out.size (fun i e => by have := Option.some.inj e; have := hloB.out; omega))
      have hK7 := hid (hb_neb hK6.out hg hneK.out)
      clear hA hg hA6 hB6 hK6
      try (rename_i hKK; refine hKK _ _ ?_; clear hKK)
      go_wp2_with fail
      refine (hOx.out _).mono ?_
      rintro e W8 ⟨rfl, hb⟩
      have hK8 := hid (hK7.out.below hb hK7.out.lt)
      have hB8 := hid (below_up hb hB7.out)
      have hA8 := hid (hA7.out.on hb)
      clear hb hK7 hB7 hA7
      try (rename_i hKK; refine hKK _ _ ?_; clear hKK)
      go_wp2_with fail
      refine (hAx.out _ _ _ hA8.out).mono ?_
      rintro e W9 ⟨rfl, hA, hg⟩
      have hA9 := hid hA
      have hB9 := hid (hB8.out.grown hg hB8.out.size (fun i e => by have := Option.some.inj e; have := hloB.out; omega))
      have hK9 := hid (hb_neb hK8.out hg hneK.out)
      clear hA hg hA8 hB8 hK8
      try (rename_i hKK; refine hKK _ _ ?_; clear hKK)
      go_wp2_with fail
      have hb : Below W9.heap.size W9 W9.drew := (Below.refl _ _).drew
      have hK10 := hid (hK9.out.below hb hK9.out.lt)
      have hB10 := hid (below_up hb hB9.out)
      have hA10 := hid (hA9.out.on hb)
      clear hb hK9 hB9 hA9
      refine wp_region_held_drew (S := fun V => Holds V w.heap.size 33 (byteCells kh)) (by kernel_rfl) (by exact hK10.out) (fun hHeld => ?_)
      generalize W9.drew = W10 at *
      refine tkn 0 (.int .i64 1100) rfl (by kernel_rfl) (fun _ _ _ h => h) (yieldsIf_move _ rfl rfl rfl) hHeld ?_
      simp only [ly, Act.put]
      refine tkn 3 (.bool false) rfl (by kernel_rfl) (fun _ _ _ h => h) (yieldsIf_move _ rfl rfl rfl) hHeld ?_
      simp only [ly, Act.put]
      refine wpAnyH_ready (rs := [1]) (by kernel_rfl) (by simp) (AllReadyH.cons rfl (fun K hK => ?_) AllReadyH.nil)
      have hK' := hid hK
      clear hK
      rw [if_pos (by kernel_rfl)]
      simp only [ly1, ly2, ly3]
      go_simp
      refine (errNum_any _ _).mono ?_
      rintro e w' ⟨rfl, rfl⟩
      refine hK'.out _ _ (by exact hK10.out) (fun hHeld => ?_)
      clear hK' K
      refine tkn 2 (.bool false) rfl (by kernel_rfl) (fun _ _ _ h => h) (.inl ⟨by kernel_rfl, fun w _ => by go_simp⟩) hHeld ?_
      simp only [ly, Act.put]
      refine tkn 4 (.bool true) rfl (by kernel_rfl) (fun _ _ _ h => h) (.inl ⟨by kernel_rfl, fun w _ => by go_simp⟩) hHeld ?_
      simp only [ly, Act.put]
      refine tkn 5 (.bool true) rfl (by kernel_rfl) (fun _ _ _ h => h) (yieldsIf_move _ rfl rfl rfl) hHeld ?_
      simp only [ly, Act.put]
      refine tkn 6 (.bool false) rfl (by kernel_rfl) (fun _ _ _ h => h) (.inl ⟨by kernel_rfl, fun w _ => by go_simp⟩) hHeld ?_
      simp only [ly, Act.put]
      refine tkn 7 (.bool false) rfl (by kernel_rfl) (fun _ _ _ h => h) (.inl ⟨by kernel_rfl, fun w _ => by go_simp⟩) hHeld ?_
      simp only [ly, Act.put]
      refine tkn 8 (.int .i64 1100) rfl (by kernel_rfl) (fun _ _ _ h => h) (.inl ⟨by kernel_rfl, fun w _ => by go_simp⟩) hHeld ?_
      simp only [ly, Act.put]
      refine wpAnyH_ready (rs := [9]) (by kernel_rfl) (by simp) (AllReadyH.cons rfl (fun K hK => ?_) AllReadyH.nil)
      have hK' := hid hK
      clear hK
      rw [if_pos (by kernel_rfl)]
      simp only [ly1, ly2, ly3]
      go_simp
      refine (errNum_any _ _).mono ?_
      rintro e w' ⟨rfl, rfl⟩
      refine hK'.out _ _ (by exact hK10.out) (fun hHeld => ?_)
      clear hK' K
      refine tkn 10 (.bool true) rfl (by kernel_rfl) (fun _ _ _ h => h) (.inl ⟨by kernel_rfl, fun w _ => by go_simp⟩) hHeld ?_
      simp only [ly, Act.put]
      refine tkn 11 (.bool true) rfl (by kernel_rfl) (fun _ _ _ h => h) (.inl ⟨by kernel_rfl, fun w _ => by go_simp⟩) hHeld ?_
      simp only [ly, Act.put]
      refine tkn 12 (.bool true) rfl (by kernel_rfl) (fun _ _ _ h => h) (yieldsIf_pick _ _ _ rfl rfl rfl rfl) hHeld ?_
      simp only [ly, Act.put]
      refine tkn 13 (.bool true) rfl (by kernel_rfl) (fun _ _ _ h => h) (yieldsIf_move _ rfl rfl rfl) hHeld ?_
      simp only [ly, Act.put]
      refine tkn 14 (.int .i64 0) rfl (by kernel_rfl) (fun _ _ _ h => h) (.inl ⟨by kernel_rfl, fun w _ => by go_simp⟩) hHeld ?_
      simp only [ly, Act.put]
      refine wpAnyH_ready (rs := [15]) (by kernel_rfl) (by simp) (AllReadyH.cons rfl (fun K hK => ?_) AllReadyH.nil)
      have hK' := hid hK
      clear hK
      rw [if_pos (by kernel_rfl)]
      simp only [ly1, ly2, ly3]
      go_simp
      refine (errNum_any _ _).mono ?_
      rintro e w' ⟨rfl, rfl⟩
      refine hK'.out _ _ (by exact hK10.out) (fun hHeld => ?_)
      clear hK' K
      refine tkn 16 (.bool true) rfl (by kernel_rfl) (fun _ _ _ h => h) (.inl ⟨by kernel_rfl, fun w _ => by go_simp⟩) hHeld ?_
      simp only [ly, Act.put]
      refine tkn 17 (.bool true) rfl (by kernel_rfl) (fun _ _ _ h => h) (yieldsIf_pick _ _ _ rfl rfl rfl rfl) hHeld ?_
      simp only [ly, Act.put]
      refine tkn 18 (.bool true) rfl (by kernel_rfl) (fun _ _ _ h => h) (yieldsIf_move _ rfl rfl rfl) hHeld ?_
      simp only [ly, Act.put]
      refine tkn 19 (.int .i64 0) rfl (by kernel_rfl) (fun _ _ _ h => h) (.inl ⟨by kernel_rfl, fun w _ => by go_simp⟩) hHeld ?_
      simp only [ly, Act.put]
      refine tkn 22 (.bool true) rfl (by kernel_rfl) (fun _ _ _ h => h) (.inl ⟨by kernel_rfl, fun w _ => by go_simp⟩) hHeld ?_
      simp only [ly, Act.put]
      refine wpAnyH_ready (rs := [20]) (by kernel_rfl) (by simp) (AllReadyH.cons rfl (fun K hK => ?_) AllReadyH.nil)
      have hK' := hid hK
      clear hK
      rw [if_pos (by kernel_rfl)]
      simp only [ly1, ly2, ly3]
      go_simp
      refine (errNum_any _ _).mono ?_
      rintro e w' ⟨rfl, rfl⟩
      refine hK'.out _ _ (by exact hK10.out) (fun hHeld => ?_)
      clear hK' K
      refine tkn 21 (.bool true) rfl (by kernel_rfl) (fun _ _ _ h => h) (.inl ⟨by kernel_rfl, fun w _ => by go_simp⟩) hHeld ?_
      simp only [ly, Act.put]
      refine tkn 23 (.bool true) rfl (by kernel_rfl) (fun _ _ _ h => h) (.inl ⟨by kernel_rfl, fun w _ => by go_simp⟩) hHeld ?_
      simp only [ly, Act.put]
      refine tkn 24 (.bool true) rfl (by kernel_rfl) (fun _ _ _ h => h) (yieldsIf_pick _ _ _ rfl rfl rfl rfl) hHeld ?_
      simp only [ly, Act.put]
      refine tkn 25 (.bool true) rfl (by kernel_rfl) (fun _ _ _ h => h) (yieldsIf_move _ rfl rfl rfl) hHeld ?_
      simp only [ly, Act.put]
      refine tkn 26 (.int .i64 1100) rfl (by kernel_rfl) (fun _ _ _ h => h) (.inl ⟨by kernel_rfl, fun w _ => by go_simp⟩) hHeld ?_
      simp only [ly, Act.put]
      refine tkn 29 (.agg (byteCells kh).toArray) rfl (by kernel_rfl) (fun _ _ _ h => h) (yieldsIf_load_any (by kernel_rfl) _ _ rfl ⟨w.heap.size, 0, none⟩ rfl (byteCells kh) _ (fun V hS => hS.anyO) Try.underlying33 rfl (by exact hC2.out)) hHeld ?_
      simp only [ly, Act.put]
      refine wpAnyH_ready (rs := [27]) (by kernel_rfl) (by simp) (AllReadyH.cons rfl (fun K hK => ?_) AllReadyH.nil)
      have hK' := hid hK
      clear hK
      rw [if_pos (by kernel_rfl)]
      simp only [ly1, ly2, ly3]
      go_simp
      refine (errNum_any _ _).mono ?_
      rintro e w' ⟨rfl, rfl⟩
      refine hK'.out _ _ (by exact hK10.out) (fun hHeld => ?_)
      clear hK' K
      refine tkn 28 (.bool false) rfl (by kernel_rfl) (fun _ _ _ h => h) (.inl ⟨by kernel_rfl, fun w _ => by go_simp⟩) hHeld ?_
      simp only [ly, Act.put]
      refine wpAnyH_ready (rs := [30]) (by kernel_rfl) (by simp) (AllReadyH.cons rfl (fun K hK => ?_) AllReadyH.nil)
      have hK' := hid hK
      clear hK
      rw [if_pos (by kernel_rfl)]
      simp only [ly1, ly2, ly3]
      go_simp
      refine (hOa.out _).mono ?_
      rintro e W11 ⟨rfl, hb⟩
      have hK11 := hid (hK10.out.below hb hK10.out.lt)
      have hB11 := hid (below_up hb hB10.out)
      have hA11 := hid (hA10.out.on hb)
      clear hb hK10 hB10 hA10
      refine hK'.out _ _ (by exact hK11.out) (fun hHeld => ?_)
      clear hK' K
      refine tkn 31 (.bool false) rfl (by kernel_rfl) (fun _ _ _ h => h) (yieldsIf_zeql (by kernel_rfl) (.tmp 87) (.tmp 88) _ rfl kh la (by exact hk32.out) (by exact hla32.out) false (by exact hq'.out) rfl rfl) hHeld ?_
      simp only [ly, Act.put]
      refine tkn 32 (.bool true) rfl (by kernel_rfl) (fun _ _ _ h => h) (.inl ⟨by kernel_rfl, fun w _ => by go_simp⟩) hHeld ?_
      simp only [ly, Act.put]
      refine tkn 33 (.bool true) rfl (by kernel_rfl) (fun _ _ _ h => h) (yieldsIf_pick _ _ _ rfl rfl rfl rfl) hHeld ?_
      simp only [ly, Act.put]
      refine tkn 34 (.bool true) rfl (by kernel_rfl) (fun _ _ _ h => h) (yieldsIf_move _ rfl rfl rfl) hHeld ?_
      simp only [ly, Act.put]
      refine tkn 35 (.int .i64 0) rfl (by kernel_rfl) (fun _ _ _ h => h) (.inl ⟨by kernel_rfl, fun w _ => by go_simp⟩) hHeld ?_
      simp only [ly, Act.put]
      refine tkn 38 (.bool true) rfl (by kernel_rfl) (fun _ _ _ h => h) (.inl ⟨by kernel_rfl, fun w _ => by go_simp⟩) hHeld ?_
      simp only [ly, Act.put]
      refine wpAnyH_ready (rs := [36]) (by kernel_rfl) (by simp) (AllReadyH.cons rfl (fun K hK => ?_) AllReadyH.nil)
      have hK' := hid hK
      clear hK
      rw [if_pos (by kernel_rfl)]
      simp only [ly1, ly2, ly3]
      go_simp
      refine (errNum_any _ _).mono ?_
      rintro e w' ⟨rfl, rfl⟩
      refine hK'.out _ _ (by exact hK11.out) (fun hHeld => ?_)
      clear hK' K
      refine tkn 37 (.bool true) rfl (by kernel_rfl) (fun _ _ _ h => h) (.inl ⟨by kernel_rfl, fun w _ => by go_simp⟩) hHeld ?_
      simp only [ly, Act.put]
      refine tkn 39 (.bool true) rfl (by kernel_rfl) (fun _ _ _ h => h) (.inl ⟨by kernel_rfl, fun w _ => by go_simp⟩) hHeld ?_
      simp only [ly, Act.put]
      refine tkn 40 (.bool true) rfl (by kernel_rfl) (fun _ _ _ h => h) (yieldsIf_pick _ _ _ rfl rfl rfl rfl) hHeld ?_
      simp only [ly, Act.put]
      refine tkn 41 (.bool true) rfl (by kernel_rfl) (fun _ _ _ h => h) (yieldsIf_assign _ rfl rfl rfl) hHeld ?_
      simp only [ly, Act.put]
      refine wpAnyH_done (by kernel_rfl) ?_ _
      go_wp2_with fail
      go_ret
      exact ⟨rfl, hB11.out⟩
  · as_aux_lemma =>
      have hq' := hid hq
      have hN := hid (fun V => obNew_code most 1100 (.inr ⟨fun h => m1 h.1, rfl⟩) V)
      clear hq
      have hf : ¬ (4094 + (L : Int) ≤ 4096) := by omega
      go_enter Try.func5, Try.ntmps5
      go_wp2_with (first
        | ((with_reducible refine at_slot (some 5) ?_); refine wpList_run rfl (.pointer (some ⟨w.heap.size, 0, none⟩)) (w.alloc (.cells (byteCells kh).toArray 33)) (by kernel_rfl) ?_; rw [hW0'.out])
        | fail)
      refine (awake11_any _).mono ?_
      rintro e W1 ⟨rfl, hb⟩
      have hK1 := hid (hK0.out.below hb hK0.out.lt)
      have hB1 := hid (below_up hb hB0.out)
      clear hb hK0 hB0
      go_wp2_with fail
      refine (hN.out _).mono ?_
      rintro e W2 ⟨p, rfl, hb⟩
      have hK2 := hid (hK1.out.below hb hK1.out.lt)
      have hB2 := hid (below_up hb hB1.out)
      clear hb hK1 hB1
      try (rename_i hKK; refine hKK _ _ ?_; clear hKK)
      go_wp2_with fail
      refine (hN3.out _).mono ?_
      rintro e W3 ⟨rfl, hA, hb⟩
      obtain ⟨b, hbb⟩ : ∃ b, W2.heap.size = b := ⟨_, rfl⟩
      have hneK := hid (show w.heap.size ≠ b from by rw [← hbb]; have := hK2.out.lt; omega)
      have hloB := hid (show w.heap.size ≤ b from by rw [← hbb]; exact hB2.out.size)
      have hK3 := hid (hK2.out.below hb hK2.out.lt)
      have hB3 := hid (below_up hb hB2.out)
      have hA3 := hid hA
      clear hb hK2 hB2 hA
      rw [hbb] at hA3 ⊢
      clear hbb
      try (rename_i hKK; refine hKK _ _ ?_; clear hKK)
      go_wp2_with (first
        | ((with_reducible refine at_slot (some 40) ?_); refine wpList_make_zeros rfl _ _ 51 rfl 5 i0 Try.underlying51 hi hz0 hzz hby _ (4094 + L) rfl rfl (by omega) (by omega) x hx'.out ?_; intro W4 hRz hb; have hcv := run_convert_row (P := Try.prog) (w := W4) (e := 5) 51 9 Try.underlying51 Try.underlying5 Try.underlying9 hxs'.out.symm hRz; have hcv' := hid hcv; clear hcv hRz; have hK4 := hid (hK3.out.below hb hK3.out.lt); have hB4 := hid (below_up hb hB3.out); have hA4 := hid (hA3.out.on hb); clear hb hK3 hB3 hA3)
        | ((with_reducible refine at_slot (some 41) ?_); refine wpList_convert rfl 51 9 (.tmp 40) rfl _ (.string x) _ rfl (by exact hcv'.out) ?_)
        | fail)
      clear hcv'
      refine (hPut.out _ _ _ hA4.out).mono ?_
      rintro e W5 ⟨rfl, hA, hg⟩
      have hA5 := hid hA
      have hB5 := hid (hB4.out.grown hg hB4.out.size (fun i e => by have := Option.some.inj e; have := hloB.out; omega))
      have hK5 := hid (hb_neb hK4.out hg hneK.out)
      clear hA hg hA4 hB4 hK4
      try (rename_i hKK; refine hKK _ _ ?_; clear hKK)
      go_wp2_with (first
        | ((with_reducible refine at_slot (some 14) ?_); refine wpList_run rfl (.pointer (some ⟨W5.heap.size, 0, none⟩)) (W5.alloc (.cells z32 33)) (by kernel_rfl) ?_)
        | ((with_reducible refine at_slot none ?_); refine wpList_store_mid rfl 33 (.tmp 14) (.tmp 46) rfl W5.heap.size 0 (byteCells pa).toArray rfl rfl (by exact hC.out.there W5) (by exact hC.out.size) (by exact hC.out.one) ?_; generalize hW : World.setCells _ _ _ _ = W6; obtain ⟨hN, hb⟩ := hC.out.new hW; have hK6 := hid (hK5.out.below hb hK5.out.lt); have hB6 := hid (below_up hb hB5.out); have hA6 := hid (hA5.out.on hb); have hY6 := hid hN; clear hb hK5 hB5 hA5 hN; clear hW)
        | ((with_reducible refine at_slot (some 49) ?_); refine wpList_load_mid rfl 33 (.tmp 5) rfl w.heap.size 0 rfl (byteCells kh) _ (by exact h_all hK6.out) Try.underlying33 rfl (by exact hC2.out) ?_)
        | fail)
      refine (hAb.out _ _ _ hA6.out).mono ?_
      rintro e W7 ⟨rfl, hA, hg⟩
      have hA7 := hid hA
      have hB7 := hid (hB6.out.grown hg hB6.out.size (fun i e => by have := Option.some.inj e; have := hloB.out; omega))
      have hK7 := hid (hb_neb hK6.out hg hneK.out)
      clear hA hg hA6 hB6 hK6
      try (rename_i hKK; refine hKK _ _ ?_; clear hKK)
      go_wp2_with fail
      refine (hOx.out _).mono ?_
      rintro e W8 ⟨rfl, hb⟩
      have hK8 := hid (hK7.out.below hb hK7.out.lt)
      have hB8 := hid (below_up hb hB7.out)
      have hA8 := hid (hA7.out.on hb)
      clear hb hK7 hB7 hA7
      try (rename_i hKK; refine hKK _ _ ?_; clear hKK)
      go_wp2_with fail
      refine (hAx.out _ _ _ hA8.out).mono ?_
      rintro e W9 ⟨rfl, hA, hg⟩
      have hA9 := hid hA
      have hB9 := hid (hB8.out.grown hg hB8.out.size (fun i e => by have := Option.some.inj e; have := hloB.out; omega))
      have hK9 := hid (hb_neb hK8.out hg hneK.out)
      clear hA hg hA8 hB8 hK8
      try (rename_i hKK; refine hKK _ _ ?_; clear hKK)
      go_wp2_with fail
      have hb : Below W9.heap.size W9 W9.drew := (Below.refl _ _).drew
      have hK10 := hid (hK9.out.below hb hK9.out.lt)
      have hB10 := hid (below_up hb hB9.out)
      have hA10 := hid (hA9.out.on hb)
      clear hb hK9 hB9 hA9
      refine wp_region_held_drew (S := fun V => Holds V w.heap.size 33 (byteCells kh)) (by kernel_rfl) (by exact hK10.out) (fun hHeld => ?_)
      generalize W9.drew = W10 at *
      refine tkn 0 (.int .i64 1100) rfl (by kernel_rfl) (fun _ _ _ h => h) (yieldsIf_move _ rfl rfl rfl) hHeld ?_
      simp only [ly, Act.put]
      refine tkn 3 (.bool false) rfl (by kernel_rfl) (fun _ _ _ h => h) (yieldsIf_move _ rfl rfl rfl) hHeld ?_
      simp only [ly, Act.put]
      refine wpAnyH_ready (rs := [1]) (by kernel_rfl) (by simp) (AllReadyH.cons rfl (fun K hK => ?_) AllReadyH.nil)
      have hK' := hid hK
      clear hK
      rw [if_pos (by kernel_rfl)]
      simp only [ly1, ly2, ly3]
      go_simp
      refine (errNum_any _ _).mono ?_
      rintro e w' ⟨rfl, rfl⟩
      refine hK'.out _ _ (by exact hK10.out) (fun hHeld => ?_)
      clear hK' K
      refine tkn 2 (.bool false) rfl (by kernel_rfl) (fun _ _ _ h => h) (.inl ⟨by kernel_rfl, fun w _ => by go_simp⟩) hHeld ?_
      simp only [ly, Act.put]
      refine tkn 4 (.bool true) rfl (by kernel_rfl) (fun _ _ _ h => h) (.inl ⟨by kernel_rfl, fun w _ => by go_simp⟩) hHeld ?_
      simp only [ly, Act.put]
      refine tkn 5 (.bool true) rfl (by kernel_rfl) (fun _ _ _ h => h) (yieldsIf_move _ rfl rfl rfl) hHeld ?_
      simp only [ly, Act.put]
      refine tkn 6 (.bool false) rfl (by kernel_rfl) (fun _ _ _ h => h) (.inl ⟨by kernel_rfl, fun w _ => by go_simp⟩) hHeld ?_
      simp only [ly, Act.put]
      refine tkn 7 (.bool false) rfl (by kernel_rfl) (fun _ _ _ h => h) (.inl ⟨by kernel_rfl, fun w _ => by go_simp⟩) hHeld ?_
      simp only [ly, Act.put]
      refine tkn 8 (.int .i64 1100) rfl (by kernel_rfl) (fun _ _ _ h => h) (.inl ⟨by kernel_rfl, fun w _ => by go_simp⟩) hHeld ?_
      simp only [ly, Act.put]
      refine wpAnyH_ready (rs := [9]) (by kernel_rfl) (by simp) (AllReadyH.cons rfl (fun K hK => ?_) AllReadyH.nil)
      have hK' := hid hK
      clear hK
      rw [if_pos (by kernel_rfl)]
      simp only [ly1, ly2, ly3]
      go_simp
      refine (errNum_any _ _).mono ?_
      rintro e w' ⟨rfl, rfl⟩
      refine hK'.out _ _ (by exact hK10.out) (fun hHeld => ?_)
      clear hK' K
      refine tkn 10 (.bool true) rfl (by kernel_rfl) (fun _ _ _ h => h) (.inl ⟨by kernel_rfl, fun w _ => by go_simp⟩) hHeld ?_
      simp only [ly, Act.put]
      refine tkn 11 (.bool true) rfl (by kernel_rfl) (fun _ _ _ h => h) (.inl ⟨by kernel_rfl, fun w _ => by go_simp⟩) hHeld ?_
      simp only [ly, Act.put]
      refine tkn 12 (.bool true) rfl (by kernel_rfl) (fun _ _ _ h => h) (yieldsIf_pick _ _ _ rfl rfl rfl rfl) hHeld ?_
      simp only [ly, Act.put]
      refine tkn 13 (.bool true) rfl (by kernel_rfl) (fun _ _ _ h => h) (yieldsIf_move _ rfl rfl rfl) hHeld ?_
      simp only [ly, Act.put]
      refine tkn 14 (.int .i64 0) rfl (by kernel_rfl) (fun _ _ _ h => h) (.inl ⟨by kernel_rfl, fun w _ => by go_simp⟩) hHeld ?_
      simp only [ly, Act.put]
      refine wpAnyH_ready (rs := [15]) (by kernel_rfl) (by simp) (AllReadyH.cons rfl (fun K hK => ?_) AllReadyH.nil)
      have hK' := hid hK
      clear hK
      rw [if_pos (by kernel_rfl)]
      simp only [ly1, ly2, ly3]
      go_simp
      refine (errNum_any _ _).mono ?_
      rintro e w' ⟨rfl, rfl⟩
      refine hK'.out _ _ (by exact hK10.out) (fun hHeld => ?_)
      clear hK' K
      refine tkn 16 (.bool true) rfl (by kernel_rfl) (fun _ _ _ h => h) (.inl ⟨by kernel_rfl, fun w _ => by go_simp⟩) hHeld ?_
      simp only [ly, Act.put]
      refine tkn 17 (.bool true) rfl (by kernel_rfl) (fun _ _ _ h => h) (yieldsIf_pick _ _ _ rfl rfl rfl rfl) hHeld ?_
      simp only [ly, Act.put]
      refine tkn 18 (.bool true) rfl (by kernel_rfl) (fun _ _ _ h => h) (yieldsIf_move _ rfl rfl rfl) hHeld ?_
      simp only [ly, Act.put]
      refine tkn 19 (.int .i64 1100) rfl (by kernel_rfl) (fun _ _ _ h => h) (.inl ⟨by kernel_rfl, fun w _ => by go_simp⟩) hHeld ?_
      simp only [ly, Act.put]
      refine tkn 22 (.bool false) rfl (by kernel_rfl) (fun _ _ _ h => h) (.inl ⟨by kernel_rfl, fun w _ => by go_simp⟩) hHeld ?_
      simp only [ly, Act.put]
      refine wpAnyH_ready (rs := [20]) (by kernel_rfl) (by simp) (AllReadyH.cons rfl (fun K hK => ?_) AllReadyH.nil)
      have hK' := hid hK
      clear hK
      rw [if_pos (by kernel_rfl)]
      simp only [ly1, ly2, ly3]
      go_simp
      refine (errNum_any _ _).mono ?_
      rintro e w' ⟨rfl, rfl⟩
      refine hK'.out _ _ (by exact hK10.out) (fun hHeld => ?_)
      clear hK' K
      refine tkn 21 (.bool false) rfl (by kernel_rfl) (fun _ _ _ h => h) (.inl ⟨by kernel_rfl, fun w _ => by go_simp⟩) hHeld ?_
      simp only [ly, Act.put]
      refine tkn 23 (.bool true) rfl (by kernel_rfl) (fun _ _ _ h => h) (.inl ⟨by kernel_rfl, fun w _ => by go_simp⟩) hHeld ?_
      simp only [ly, Act.put]
      refine tkn 24 (.bool true) rfl (by kernel_rfl) (fun _ _ _ h => h) (yieldsIf_pick _ _ _ rfl rfl rfl rfl) hHeld ?_
      simp only [ly, Act.put]
      refine tkn 25 (.bool true) rfl (by kernel_rfl) (fun _ _ _ h => h) (yieldsIf_move _ rfl rfl rfl) hHeld ?_
      simp only [ly, Act.put]
      refine tkn 26 (.int .i64 0) rfl (by kernel_rfl) (fun _ _ _ h => h) (.inl ⟨by kernel_rfl, fun w _ => by go_simp⟩) hHeld ?_
      simp only [ly, Act.put]
      refine tkn 29 (.agg (byteCells kh).toArray) rfl (by kernel_rfl) (fun _ _ _ h => h) (yieldsIf_load_any (by kernel_rfl) _ _ rfl ⟨w.heap.size, 0, none⟩ rfl (byteCells kh) _ (fun V hS => hS.anyO) Try.underlying33 rfl (by exact hC2.out)) hHeld ?_
      simp only [ly, Act.put]
      refine wpAnyH_ready (rs := [27]) (by kernel_rfl) (by simp) (AllReadyH.cons rfl (fun K hK => ?_) AllReadyH.nil)
      have hK' := hid hK
      clear hK
      rw [if_pos (by kernel_rfl)]
      simp only [ly1, ly2, ly3]
      go_simp
      refine (errNum_any _ _).mono ?_
      rintro e w' ⟨rfl, rfl⟩
      refine hK'.out _ _ (by exact hK10.out) (fun hHeld => ?_)
      clear hK' K
      refine tkn 28 (.bool true) rfl (by kernel_rfl) (fun _ _ _ h => h) (.inl ⟨by kernel_rfl, fun w _ => by go_simp⟩) hHeld ?_
      simp only [ly, Act.put]
      refine wpAnyH_ready (rs := [30]) (by kernel_rfl) (by simp) (AllReadyH.cons rfl (fun K hK => ?_) AllReadyH.nil)
      have hK' := hid hK
      clear hK
      rw [if_pos (by kernel_rfl)]
      simp only [ly1, ly2, ly3]
      go_simp
      refine (hOa.out _).mono ?_
      rintro e W11 ⟨rfl, hb⟩
      have hK11 := hid (hK10.out.below hb hK10.out.lt)
      have hB11 := hid (below_up hb hB10.out)
      have hA11 := hid (hA10.out.on hb)
      clear hb hK10 hB10 hA10
      refine hK'.out _ _ (by exact hK11.out) (fun hHeld => ?_)
      clear hK' K
      refine tkn 31 (.bool true) rfl (by kernel_rfl) (fun _ _ _ h => h) (yieldsIf_zeql (by kernel_rfl) (.tmp 87) (.tmp 88) _ rfl kh la (by exact hk32.out) (by exact hla32.out) true (by exact hq'.out) rfl rfl) hHeld ?_
      simp only [ly, Act.put]
      refine tkn 32 (.bool true) rfl (by kernel_rfl) (fun _ _ _ h => h) (.inl ⟨by kernel_rfl, fun w _ => by go_simp⟩) hHeld ?_
      simp only [ly, Act.put]
      refine tkn 33 (.bool true) rfl (by kernel_rfl) (fun _ _ _ h => h) (yieldsIf_pick _ _ _ rfl rfl rfl rfl) hHeld ?_
      simp only [ly, Act.put]
      refine tkn 34 (.bool true) rfl (by kernel_rfl) (fun _ _ _ h => h) (yieldsIf_move _ rfl rfl rfl) hHeld ?_
      simp only [ly, Act.put]
      refine tkn 35 (.int .i64 1100) rfl (by kernel_rfl) (fun _ _ _ h => h) (.inl ⟨by kernel_rfl, fun w _ => by go_simp⟩) hHeld ?_
      simp only [ly, Act.put]
      refine tkn 38 (.bool false) rfl (by kernel_rfl) (fun _ _ _ h => h) (.inl ⟨by kernel_rfl, fun w _ => by go_simp⟩) hHeld ?_
      simp only [ly, Act.put]
      refine wpAnyH_ready (rs := [36]) (by kernel_rfl) (by simp) (AllReadyH.cons rfl (fun K hK => ?_) AllReadyH.nil)
      have hK' := hid hK
      clear hK
      rw [if_pos (by kernel_rfl)]
      simp only [ly1, ly2, ly3]
      go_simp
      refine (errNum_any _ _).mono ?_
      rintro e w' ⟨rfl, rfl⟩
      refine hK'.out _ _ (by exact hK11.out) (fun hHeld => ?_)
      clear hK' K
      refine tkn 37 (.bool false) rfl (by kernel_rfl) (fun _ _ _ h => h) (.inl ⟨by kernel_rfl, fun w _ => by go_simp⟩) hHeld ?_
      simp only [ly, Act.put]
      refine tkn 39 (.bool true) rfl (by kernel_rfl) (fun _ _ _ h => h) (.inl ⟨by kernel_rfl, fun w _ => by go_simp⟩) hHeld ?_
      simp only [ly, Act.put]
      refine tkn 40 (.bool true) rfl (by kernel_rfl) (fun _ _ _ h => h) (yieldsIf_pick _ _ _ rfl rfl rfl rfl) hHeld ?_
      simp only [ly, Act.put]
      refine tkn 41 (.bool true) rfl (by kernel_rfl) (fun _ _ _ h => h) (yieldsIf_assign _ rfl rfl rfl) hHeld ?_
      simp only [ly, Act.put]
      refine wpAnyH_done (by kernel_rfl) ?_ _
      go_wp2_with fail
      go_ret
      exact ⟨rfl, hB11.out⟩
  · as_aux_lemma =>
      have hq' := hid hq
      have hN := hid (fun V => obNew_code most 1100 (.inr ⟨fun h => m1 h.1, rfl⟩) V)
      clear hq
      have hf : ¬ (4094 + (L : Int) ≤ 4096) := by omega
      go_enter Try.func5, Try.ntmps5
      go_wp2_with (first
        | ((with_reducible refine at_slot (some 5) ?_); refine wpList_run rfl (.pointer (some ⟨w.heap.size, 0, none⟩)) (w.alloc (.cells (byteCells kh).toArray 33)) (by kernel_rfl) ?_; rw [hW0'.out])
        | fail)
      refine (awake11_any _).mono ?_
      rintro e W1 ⟨rfl, hb⟩
      have hK1 := hid (hK0.out.below hb hK0.out.lt)
      have hB1 := hid (below_up hb hB0.out)
      clear hb hK0 hB0
      go_wp2_with fail
      refine (hN.out _).mono ?_
      rintro e W2 ⟨p, rfl, hb⟩
      have hK2 := hid (hK1.out.below hb hK1.out.lt)
      have hB2 := hid (below_up hb hB1.out)
      clear hb hK1 hB1
      try (rename_i hKK; refine hKK _ _ ?_; clear hKK)
      go_wp2_with fail
      refine (hN3.out _).mono ?_
      rintro e W3 ⟨rfl, hA, hb⟩
      obtain ⟨b, hbb⟩ : ∃ b, W2.heap.size = b := ⟨_, rfl⟩
      have hneK := hid (show w.heap.size ≠ b from by rw [← hbb]; have := hK2.out.lt; omega)
      have hloB := hid (show w.heap.size ≤ b from by rw [← hbb]; exact hB2.out.size)
      have hK3 := hid (hK2.out.below hb hK2.out.lt)
      have hB3 := hid (below_up hb hB2.out)
      have hA3 := hid hA
      clear hb hK2 hB2 hA
      rw [hbb] at hA3 ⊢
      clear hbb
      try (rename_i hKK; refine hKK _ _ ?_; clear hKK)
      go_wp2_with (first
        | ((with_reducible refine at_slot (some 40) ?_); refine wpList_make_zeros rfl _ _ 51 rfl 5 i0 Try.underlying51 hi hz0 hzz hby _ (4094 + L) rfl rfl (by omega) (by omega) x hx'.out ?_; intro W4 hRz hb; have hcv := run_convert_row (P := Try.prog) (w := W4) (e := 5) 51 9 Try.underlying51 Try.underlying5 Try.underlying9 hxs'.out.symm hRz; have hcv' := hid hcv; clear hcv hRz; have hK4 := hid (hK3.out.below hb hK3.out.lt); have hB4 := hid (below_up hb hB3.out); have hA4 := hid (hA3.out.on hb); clear hb hK3 hB3 hA3)
        | ((with_reducible refine at_slot (some 41) ?_); refine wpList_convert rfl 51 9 (.tmp 40) rfl _ (.string x) _ rfl (by exact hcv'.out) ?_)
        | fail)
      clear hcv'
      refine (hPut.out _ _ _ hA4.out).mono ?_
      rintro e W5 ⟨rfl, hA, hg⟩
      have hA5 := hid hA
      have hB5 := hid (hB4.out.grown hg hB4.out.size (fun i e => by have := Option.some.inj e; have := hloB.out; omega))
      have hK5 := hid (hb_neb hK4.out hg hneK.out)
      clear hA hg hA4 hB4 hK4
      try (rename_i hKK; refine hKK _ _ ?_; clear hKK)
      go_wp2_with (first
        | ((with_reducible refine at_slot (some 14) ?_); refine wpList_run rfl (.pointer (some ⟨W5.heap.size, 0, none⟩)) (W5.alloc (.cells z32 33)) (by kernel_rfl) ?_)
        | ((with_reducible refine at_slot none ?_); refine wpList_store_mid rfl 33 (.tmp 14) (.tmp 46) rfl W5.heap.size 0 (byteCells pa).toArray rfl rfl (by exact hC.out.there W5) (by exact hC.out.size) (by exact hC.out.one) ?_; generalize hW : World.setCells _ _ _ _ = W6; obtain ⟨hN, hb⟩ := hC.out.new hW; have hK6 := hid (hK5.out.below hb hK5.out.lt); have hB6 := hid (below_up hb hB5.out); have hA6 := hid (hA5.out.on hb); have hY6 := hid hN; clear hb hK5 hB5 hA5 hN; clear hW)
        | ((with_reducible refine at_slot (some 49) ?_); refine wpList_load_mid rfl 33 (.tmp 5) rfl w.heap.size 0 rfl (byteCells kh) _ (by exact h_all hK6.out) Try.underlying33 rfl (by exact hC2.out) ?_)
        | fail)
      refine (hAb.out _ _ _ hA6.out).mono ?_
      rintro e W7 ⟨rfl, hA, hg⟩
      have hA7 := hid hA
      have hB7 := hid (hB6.out.grown hg hB6.out.size (fun i e => by have := Option.some.inj e; have := hloB.out; omega))
      have hK7 := hid (hb_neb hK6.out hg hneK.out)
      clear hA hg hA6 hB6 hK6
      try (rename_i hKK; refine hKK _ _ ?_; clear hKK)
      go_wp2_with fail
      refine (hOx.out _).mono ?_
      rintro e W8 ⟨rfl, hb⟩
      have hK8 := hid (hK7.out.below hb hK7.out.lt)
      have hB8 := hid (below_up hb hB7.out)
      have hA8 := hid (hA7.out.on hb)
      clear hb hK7 hB7 hA7
      try (rename_i hKK; refine hKK _ _ ?_; clear hKK)
      go_wp2_with fail
      refine (hAx.out _ _ _ hA8.out).mono ?_
      rintro e W9 ⟨rfl, hA, hg⟩
      have hA9 := hid hA
      have hB9 := hid (hB8.out.grown hg hB8.out.size (fun i e => by have := Option.some.inj e; have := hloB.out; omega))
      have hK9 := hid (hb_neb hK8.out hg hneK.out)
      clear hA hg hA8 hB8 hK8
      try (rename_i hKK; refine hKK _ _ ?_; clear hKK)
      go_wp2_with fail
      have hb : Below W9.heap.size W9 W9.drew := (Below.refl _ _).drew
      have hK10 := hid (hK9.out.below hb hK9.out.lt)
      have hB10 := hid (below_up hb hB9.out)
      have hA10 := hid (hA9.out.on hb)
      clear hb hK9 hB9 hA9
      refine wp_region_held_drew (S := fun V => Holds V w.heap.size 33 (byteCells kh)) (by kernel_rfl) (by exact hK10.out) (fun hHeld => ?_)
      generalize W9.drew = W10 at *
      refine tkn 0 (.int .i64 1100) rfl (by kernel_rfl) (fun _ _ _ h => h) (yieldsIf_move _ rfl rfl rfl) hHeld ?_
      simp only [ly, Act.put]
      refine tkn 3 (.bool false) rfl (by kernel_rfl) (fun _ _ _ h => h) (yieldsIf_move _ rfl rfl rfl) hHeld ?_
      simp only [ly, Act.put]
      refine wpAnyH_ready (rs := [1]) (by kernel_rfl) (by simp) (AllReadyH.cons rfl (fun K hK => ?_) AllReadyH.nil)
      have hK' := hid hK
      clear hK
      rw [if_pos (by kernel_rfl)]
      simp only [ly1, ly2, ly3]
      go_simp
      refine (errNum_any _ _).mono ?_
      rintro e w' ⟨rfl, rfl⟩
      refine hK'.out _ _ (by exact hK10.out) (fun hHeld => ?_)
      clear hK' K
      refine tkn 2 (.bool false) rfl (by kernel_rfl) (fun _ _ _ h => h) (.inl ⟨by kernel_rfl, fun w _ => by go_simp⟩) hHeld ?_
      simp only [ly, Act.put]
      refine tkn 4 (.bool true) rfl (by kernel_rfl) (fun _ _ _ h => h) (.inl ⟨by kernel_rfl, fun w _ => by go_simp⟩) hHeld ?_
      simp only [ly, Act.put]
      refine tkn 5 (.bool true) rfl (by kernel_rfl) (fun _ _ _ h => h) (yieldsIf_move _ rfl rfl rfl) hHeld ?_
      simp only [ly, Act.put]
      refine tkn 6 (.bool false) rfl (by kernel_rfl) (fun _ _ _ h => h) (.inl ⟨by kernel_rfl, fun w _ => by go_simp⟩) hHeld ?_
      simp only [ly, Act.put]
      refine tkn 7 (.bool false) rfl (by kernel_rfl) (fun _ _ _ h => h) (.inl ⟨by kernel_rfl, fun w _ => by go_simp⟩) hHeld ?_
      simp only [ly, Act.put]
      refine tkn 8 (.int .i64 1100) rfl (by kernel_rfl) (fun _ _ _ h => h) (.inl ⟨by kernel_rfl, fun w _ => by go_simp⟩) hHeld ?_
      simp only [ly, Act.put]
      refine wpAnyH_ready (rs := [9]) (by kernel_rfl) (by simp) (AllReadyH.cons rfl (fun K hK => ?_) AllReadyH.nil)
      have hK' := hid hK
      clear hK
      rw [if_pos (by kernel_rfl)]
      simp only [ly1, ly2, ly3]
      go_simp
      refine (errNum_any _ _).mono ?_
      rintro e w' ⟨rfl, rfl⟩
      refine hK'.out _ _ (by exact hK10.out) (fun hHeld => ?_)
      clear hK' K
      refine tkn 10 (.bool true) rfl (by kernel_rfl) (fun _ _ _ h => h) (.inl ⟨by kernel_rfl, fun w _ => by go_simp⟩) hHeld ?_
      simp only [ly, Act.put]
      refine tkn 11 (.bool true) rfl (by kernel_rfl) (fun _ _ _ h => h) (.inl ⟨by kernel_rfl, fun w _ => by go_simp⟩) hHeld ?_
      simp only [ly, Act.put]
      refine tkn 12 (.bool true) rfl (by kernel_rfl) (fun _ _ _ h => h) (yieldsIf_pick _ _ _ rfl rfl rfl rfl) hHeld ?_
      simp only [ly, Act.put]
      refine tkn 13 (.bool true) rfl (by kernel_rfl) (fun _ _ _ h => h) (yieldsIf_move _ rfl rfl rfl) hHeld ?_
      simp only [ly, Act.put]
      refine tkn 14 (.int .i64 0) rfl (by kernel_rfl) (fun _ _ _ h => h) (.inl ⟨by kernel_rfl, fun w _ => by go_simp⟩) hHeld ?_
      simp only [ly, Act.put]
      refine wpAnyH_ready (rs := [15]) (by kernel_rfl) (by simp) (AllReadyH.cons rfl (fun K hK => ?_) AllReadyH.nil)
      have hK' := hid hK
      clear hK
      rw [if_pos (by kernel_rfl)]
      simp only [ly1, ly2, ly3]
      go_simp
      refine (errNum_any _ _).mono ?_
      rintro e w' ⟨rfl, rfl⟩
      refine hK'.out _ _ (by exact hK10.out) (fun hHeld => ?_)
      clear hK' K
      refine tkn 16 (.bool true) rfl (by kernel_rfl) (fun _ _ _ h => h) (.inl ⟨by kernel_rfl, fun w _ => by go_simp⟩) hHeld ?_
      simp only [ly, Act.put]
      refine tkn 17 (.bool true) rfl (by kernel_rfl) (fun _ _ _ h => h) (yieldsIf_pick _ _ _ rfl rfl rfl rfl) hHeld ?_
      simp only [ly, Act.put]
      refine tkn 18 (.bool true) rfl (by kernel_rfl) (fun _ _ _ h => h) (yieldsIf_move _ rfl rfl rfl) hHeld ?_
      simp only [ly, Act.put]
      refine tkn 19 (.int .i64 1100) rfl (by kernel_rfl) (fun _ _ _ h => h) (.inl ⟨by kernel_rfl, fun w _ => by go_simp⟩) hHeld ?_
      simp only [ly, Act.put]
      refine tkn 22 (.bool false) rfl (by kernel_rfl) (fun _ _ _ h => h) (.inl ⟨by kernel_rfl, fun w _ => by go_simp⟩) hHeld ?_
      simp only [ly, Act.put]
      refine wpAnyH_ready (rs := [20]) (by kernel_rfl) (by simp) (AllReadyH.cons rfl (fun K hK => ?_) AllReadyH.nil)
      have hK' := hid hK
      clear hK
      rw [if_pos (by kernel_rfl)]
      simp only [ly1, ly2, ly3]
      go_simp
      refine (errNum_any _ _).mono ?_
      rintro e w' ⟨rfl, rfl⟩
      refine hK'.out _ _ (by exact hK10.out) (fun hHeld => ?_)
      clear hK' K
      refine tkn 21 (.bool false) rfl (by kernel_rfl) (fun _ _ _ h => h) (.inl ⟨by kernel_rfl, fun w _ => by go_simp⟩) hHeld ?_
      simp only [ly, Act.put]
      refine tkn 23 (.bool true) rfl (by kernel_rfl) (fun _ _ _ h => h) (.inl ⟨by kernel_rfl, fun w _ => by go_simp⟩) hHeld ?_
      simp only [ly, Act.put]
      refine tkn 24 (.bool true) rfl (by kernel_rfl) (fun _ _ _ h => h) (yieldsIf_pick _ _ _ rfl rfl rfl rfl) hHeld ?_
      simp only [ly, Act.put]
      refine tkn 25 (.bool true) rfl (by kernel_rfl) (fun _ _ _ h => h) (yieldsIf_move _ rfl rfl rfl) hHeld ?_
      simp only [ly, Act.put]
      refine tkn 26 (.int .i64 1100) rfl (by kernel_rfl) (fun _ _ _ h => h) (.inl ⟨by kernel_rfl, fun w _ => by go_simp⟩) hHeld ?_
      simp only [ly, Act.put]
      refine tkn 29 (.agg (byteCells kh).toArray) rfl (by kernel_rfl) (fun _ _ _ h => h) (yieldsIf_load_any (by kernel_rfl) _ _ rfl ⟨w.heap.size, 0, none⟩ rfl (byteCells kh) _ (fun V hS => hS.anyO) Try.underlying33 rfl (by exact hC2.out)) hHeld ?_
      simp only [ly, Act.put]
      refine wpAnyH_ready (rs := [27]) (by kernel_rfl) (by simp) (AllReadyH.cons rfl (fun K hK => ?_) AllReadyH.nil)
      have hK' := hid hK
      clear hK
      rw [if_pos (by kernel_rfl)]
      simp only [ly1, ly2, ly3]
      go_simp
      refine (errNum_any _ _).mono ?_
      rintro e w' ⟨rfl, rfl⟩
      refine hK'.out _ _ (by exact hK10.out) (fun hHeld => ?_)
      clear hK' K
      refine tkn 28 (.bool false) rfl (by kernel_rfl) (fun _ _ _ h => h) (.inl ⟨by kernel_rfl, fun w _ => by go_simp⟩) hHeld ?_
      simp only [ly, Act.put]
      refine wpAnyH_ready (rs := [30]) (by kernel_rfl) (by simp) (AllReadyH.cons rfl (fun K hK => ?_) AllReadyH.nil)
      have hK' := hid hK
      clear hK
      rw [if_pos (by kernel_rfl)]
      simp only [ly1, ly2, ly3]
      go_simp
      refine (hOa.out _).mono ?_
      rintro e W11 ⟨rfl, hb⟩
      have hK11 := hid (hK10.out.below hb hK10.out.lt)
      have hB11 := hid (below_up hb hB10.out)
      have hA11 := hid (hA10.out.on hb)
      clear hb hK10 hB10 hA10
      refine hK'.out _ _ (by exact hK11.out) (fun hHeld => ?_)
      clear hK' K
      refine tkn 31 (.bool false) rfl (by kernel_rfl) (fun _ _ _ h => h) (yieldsIf_zeql (by kernel_rfl) (.tmp 87) (.tmp 88) _ rfl kh la (by exact hk32.out) (by exact hla32.out) false (by exact hq'.out) rfl rfl) hHeld ?_
      simp only [ly, Act.put]
      refine tkn 32 (.bool true) rfl (by kernel_rfl) (fun _ _ _ h => h) (.inl ⟨by kernel_rfl, fun w _ => by go_simp⟩) hHeld ?_
      simp only [ly, Act.put]
      refine tkn 33 (.bool true) rfl (by kernel_rfl) (fun _ _ _ h => h) (yieldsIf_pick _ _ _ rfl rfl rfl rfl) hHeld ?_
      simp only [ly, Act.put]
      refine tkn 34 (.bool true) rfl (by kernel_rfl) (fun _ _ _ h => h) (yieldsIf_move _ rfl rfl rfl) hHeld ?_
      simp only [ly, Act.put]
      refine tkn 35 (.int .i64 1100) rfl (by kernel_rfl) (fun _ _ _ h => h) (.inl ⟨by kernel_rfl, fun w _ => by go_simp⟩) hHeld ?_
      simp only [ly, Act.put]
      refine tkn 38 (.bool false) rfl (by kernel_rfl) (fun _ _ _ h => h) (.inl ⟨by kernel_rfl, fun w _ => by go_simp⟩) hHeld ?_
      simp only [ly, Act.put]
      refine wpAnyH_ready (rs := [36]) (by kernel_rfl) (by simp) (AllReadyH.cons rfl (fun K hK => ?_) AllReadyH.nil)
      have hK' := hid hK
      clear hK
      rw [if_pos (by kernel_rfl)]
      simp only [ly1, ly2, ly3]
      go_simp
      refine (errNum_any _ _).mono ?_
      rintro e w' ⟨rfl, rfl⟩
      refine hK'.out _ _ (by exact hK11.out) (fun hHeld => ?_)
      clear hK' K
      refine tkn 37 (.bool false) rfl (by kernel_rfl) (fun _ _ _ h => h) (.inl ⟨by kernel_rfl, fun w _ => by go_simp⟩) hHeld ?_
      simp only [ly, Act.put]
      refine tkn 39 (.bool true) rfl (by kernel_rfl) (fun _ _ _ h => h) (.inl ⟨by kernel_rfl, fun w _ => by go_simp⟩) hHeld ?_
      simp only [ly, Act.put]
      refine tkn 40 (.bool true) rfl (by kernel_rfl) (fun _ _ _ h => h) (yieldsIf_pick _ _ _ rfl rfl rfl rfl) hHeld ?_
      simp only [ly, Act.put]
      refine tkn 41 (.bool true) rfl (by kernel_rfl) (fun _ _ _ h => h) (yieldsIf_assign _ rfl rfl rfl) hHeld ?_
      simp only [ly, Act.put]
      refine wpAnyH_done (by kernel_rfl) ?_ _
      go_wp2_with fail
      go_ret
      exact ⟨rfl, hB11.out⟩
  · as_aux_lemma =>
      have hq' := hid hq
      have hN := hid (fun V => obNew_code most 1100 (.inr ⟨fun h => m2 h.2, rfl⟩) V)
      clear hq
      have hf : (4094 + (L : Int) ≤ 4096) := by omega
      have m3 : decide (most ≤ 1024) = false := decide_eq_false m2
      have m4 : 1024 < most := by omega
      go_enter Try.func5, Try.ntmps5
      go_wp2_with (first
        | ((with_reducible refine at_slot (some 5) ?_); refine wpList_run rfl (.pointer (some ⟨w.heap.size, 0, none⟩)) (w.alloc (.cells (byteCells kh).toArray 33)) (by kernel_rfl) ?_; rw [hW0'.out])
        | fail)
      refine (awake11_any _).mono ?_
      rintro e W1 ⟨rfl, hb⟩
      have hK1 := hid (hK0.out.below hb hK0.out.lt)
      have hB1 := hid (below_up hb hB0.out)
      clear hb hK0 hB0
      go_wp2_with fail
      refine (hN.out _).mono ?_
      rintro e W2 ⟨p, rfl, hb⟩
      have hK2 := hid (hK1.out.below hb hK1.out.lt)
      have hB2 := hid (below_up hb hB1.out)
      clear hb hK1 hB1
      try (rename_i hKK; refine hKK _ _ ?_; clear hKK)
      go_wp2_with fail
      refine (hN3.out _).mono ?_
      rintro e W3 ⟨rfl, hA, hb⟩
      obtain ⟨b, hbb⟩ : ∃ b, W2.heap.size = b := ⟨_, rfl⟩
      have hneK := hid (show w.heap.size ≠ b from by rw [← hbb]; have := hK2.out.lt; omega)
      have hloB := hid (show w.heap.size ≤ b from by rw [← hbb]; exact hB2.out.size)
      have hK3 := hid (hK2.out.below hb hK2.out.lt)
      have hB3 := hid (below_up hb hB2.out)
      have hA3 := hid hA
      clear hb hK2 hB2 hA
      rw [hbb] at hA3 ⊢
      clear hbb
      try (rename_i hKK; refine hKK _ _ ?_; clear hKK)
      go_wp2_with (first
        | ((with_reducible refine at_slot (some 40) ?_); refine wpList_make_zeros rfl _ _ 51 rfl 5 i0 Try.underlying51 hi hz0 hzz hby _ (4094 + L) rfl rfl (by omega) (by omega) x hx'.out ?_; intro W4 hRz hb; have hcv := run_convert_row (P := Try.prog) (w := W4) (e := 5) 51 9 Try.underlying51 Try.underlying5 Try.underlying9 hxs'.out.symm hRz; have hcv' := hid hcv; clear hcv hRz; have hK4 := hid (hK3.out.below hb hK3.out.lt); have hB4 := hid (below_up hb hB3.out); have hA4 := hid (hA3.out.on hb); clear hb hK3 hB3 hA3)
        | ((with_reducible refine at_slot (some 41) ?_); refine wpList_convert rfl 51 9 (.tmp 40) rfl _ (.string x) _ rfl (by exact hcv'.out) ?_)
        | fail)
      clear hcv'
      refine (hPut.out _ _ _ hA4.out).mono ?_
      rintro e W5 ⟨rfl, hA, hg⟩
      have hA5 := hid hA
      have hB5 := hid (hB4.out.grown hg hB4.out.size (fun i e => by have := Option.some.inj e; have := hloB.out; omega))
      have hK5 := hid (hb_neb hK4.out hg hneK.out)
      clear hA hg hA4 hB4 hK4
      try (rename_i hKK; refine hKK _ _ ?_; clear hKK)
      go_wp2_with (first
        | ((with_reducible refine at_slot (some 14) ?_); refine wpList_run rfl (.pointer (some ⟨W5.heap.size, 0, none⟩)) (W5.alloc (.cells z32 33)) (by kernel_rfl) ?_)
        | ((with_reducible refine at_slot none ?_); refine wpList_store_mid rfl 33 (.tmp 14) (.tmp 46) rfl W5.heap.size 0 (byteCells pa).toArray rfl rfl (by exact hC.out.there W5) (by exact hC.out.size) (by exact hC.out.one) ?_; generalize hW : World.setCells _ _ _ _ = W6; obtain ⟨hN, hb⟩ := hC.out.new hW; have hK6 := hid (hK5.out.below hb hK5.out.lt); have hB6 := hid (below_up hb hB5.out); have hA6 := hid (hA5.out.on hb); have hY6 := hid hN; clear hb hK5 hB5 hA5 hN; clear hW)
        | ((with_reducible refine at_slot (some 49) ?_); refine wpList_load_mid rfl 33 (.tmp 5) rfl w.heap.size 0 rfl (byteCells kh) _ (by exact h_all hK6.out) Try.underlying33 rfl (by exact hC2.out) ?_)
        | fail)
      refine (hAb.out _ _ _ hA6.out).mono ?_
      rintro e W7 ⟨rfl, hA, hg⟩
      have hA7 := hid hA
      have hB7 := hid (hB6.out.grown hg hB6.out.size (fun i e => by have := Option.some.inj e; have := hloB.out; omega))
      have hK7 := hid (hb_neb hK6.out hg hneK.out)
      clear hA hg hA6 hB6 hK6
      try (rename_i hKK; refine hKK _ _ ?_; clear hKK)
      go_wp2_with fail
      refine (hOx.out _).mono ?_
      rintro e W8 ⟨rfl, hb⟩
      have hK8 := hid (hK7.out.below hb hK7.out.lt)
      have hB8 := hid (below_up hb hB7.out)
      have hA8 := hid (hA7.out.on hb)
      clear hb hK7 hB7 hA7
      try (rename_i hKK; refine hKK _ _ ?_; clear hKK)
      go_wp2_with fail
      refine (hAx.out _ _ _ hA8.out).mono ?_
      rintro e W9 ⟨rfl, hA, hg⟩
      have hA9 := hid hA
      have hB9 := hid (hB8.out.grown hg hB8.out.size (fun i e => by have := Option.some.inj e; have := hloB.out; omega))
      have hK9 := hid (hb_neb hK8.out hg hneK.out)
      clear hA hg hA8 hB8 hK8
      try (rename_i hKK; refine hKK _ _ ?_; clear hKK)
      go_wp2_with fail
      have hb : Below W9.heap.size W9 W9.drew := (Below.refl _ _).drew
      have hK10 := hid (hK9.out.below hb hK9.out.lt)
      have hB10 := hid (below_up hb hB9.out)
      have hA10 := hid (hA9.out.on hb)
      clear hb hK9 hB9 hA9
      refine wp_region_held_drew (S := fun V => Holds V w.heap.size 33 (byteCells kh)) (by kernel_rfl) (by exact hK10.out) (fun hHeld => ?_)
      generalize W9.drew = W10 at *
      refine tkn 0 (.int .i64 1100) rfl (by kernel_rfl) (fun _ _ _ h => h) (yieldsIf_move _ rfl rfl rfl) hHeld ?_
      simp only [ly, Act.put]
      refine tkn 3 (.bool false) rfl (by kernel_rfl) (fun _ _ _ h => h) (yieldsIf_move _ rfl rfl rfl) hHeld ?_
      simp only [ly, Act.put]
      refine wpAnyH_ready (rs := [1]) (by kernel_rfl) (by simp) (AllReadyH.cons rfl (fun K hK => ?_) AllReadyH.nil)
      have hK' := hid hK
      clear hK
      rw [if_pos (by kernel_rfl)]
      simp only [ly1, ly2, ly3]
      go_simp
      refine (errNum_any _ _).mono ?_
      rintro e w' ⟨rfl, rfl⟩
      refine hK'.out _ _ (by exact hK10.out) (fun hHeld => ?_)
      clear hK' K
      refine tkn 2 (.bool false) rfl (by kernel_rfl) (fun _ _ _ h => h) (.inl ⟨by kernel_rfl, fun w _ => by go_simp⟩) hHeld ?_
      simp only [ly, Act.put]
      refine tkn 4 (.bool true) rfl (by kernel_rfl) (fun _ _ _ h => h) (.inl ⟨by kernel_rfl, fun w _ => by go_simp⟩) hHeld ?_
      simp only [ly, Act.put]
      refine tkn 5 (.bool true) rfl (by kernel_rfl) (fun _ _ _ h => h) (yieldsIf_move _ rfl rfl rfl) hHeld ?_
      simp only [ly, Act.put]
      refine tkn 6 (.bool false) rfl (by kernel_rfl) (fun _ _ _ h => h) (.inl ⟨by kernel_rfl, fun w _ => by go_simp⟩) hHeld ?_
      simp only [ly, Act.put]
      refine tkn 7 (.bool false) rfl (by kernel_rfl) (fun _ _ _ h => h) (.inl ⟨by kernel_rfl, fun w _ => by go_simp⟩) hHeld ?_
      simp only [ly, Act.put]
      refine tkn 8 (.int .i64 1100) rfl (by kernel_rfl) (fun _ _ _ h => h) (.inl ⟨by kernel_rfl, fun w _ => by go_simp⟩) hHeld ?_
      simp only [ly, Act.put]
      refine wpAnyH_ready (rs := [9]) (by kernel_rfl) (by simp) (AllReadyH.cons rfl (fun K hK => ?_) AllReadyH.nil)
      have hK' := hid hK
      clear hK
      rw [if_pos (by kernel_rfl)]
      simp only [ly1, ly2, ly3]
      go_simp
      refine (errNum_any _ _).mono ?_
      rintro e w' ⟨rfl, rfl⟩
      refine hK'.out _ _ (by exact hK10.out) (fun hHeld => ?_)
      clear hK' K
      refine tkn 10 (.bool true) rfl (by kernel_rfl) (fun _ _ _ h => h) (.inl ⟨by kernel_rfl, fun w _ => by go_simp⟩) hHeld ?_
      simp only [ly, Act.put]
      refine tkn 11 (.bool true) rfl (by kernel_rfl) (fun _ _ _ h => h) (.inl ⟨by kernel_rfl, fun w _ => by go_simp⟩) hHeld ?_
      simp only [ly, Act.put]
      refine tkn 12 (.bool true) rfl (by kernel_rfl) (fun _ _ _ h => h) (yieldsIf_pick _ _ _ rfl rfl rfl rfl) hHeld ?_
      simp only [ly, Act.put]
      refine tkn 13 (.bool true) rfl (by kernel_rfl) (fun _ _ _ h => h) (yieldsIf_move _ rfl rfl rfl) hHeld ?_
      simp only [ly, Act.put]
      refine tkn 14 (.int .i64 0) rfl (by kernel_rfl) (fun _ _ _ h => h) (.inl ⟨by kernel_rfl, fun w _ => by go_simp⟩) hHeld ?_
      simp only [ly, Act.put]
      refine wpAnyH_ready (rs := [15]) (by kernel_rfl) (by simp) (AllReadyH.cons rfl (fun K hK => ?_) AllReadyH.nil)
      have hK' := hid hK
      clear hK
      rw [if_pos (by kernel_rfl)]
      simp only [ly1, ly2, ly3]
      go_simp
      refine (errNum_any _ _).mono ?_
      rintro e w' ⟨rfl, rfl⟩
      refine hK'.out _ _ (by exact hK10.out) (fun hHeld => ?_)
      clear hK' K
      refine tkn 16 (.bool true) rfl (by kernel_rfl) (fun _ _ _ h => h) (.inl ⟨by kernel_rfl, fun w _ => by go_simp⟩) hHeld ?_
      simp only [ly, Act.put]
      refine tkn 17 (.bool true) rfl (by kernel_rfl) (fun _ _ _ h => h) (yieldsIf_pick _ _ _ rfl rfl rfl rfl) hHeld ?_
      simp only [ly, Act.put]
      refine tkn 18 (.bool true) rfl (by kernel_rfl) (fun _ _ _ h => h) (yieldsIf_move _ rfl rfl rfl) hHeld ?_
      simp only [ly, Act.put]
      refine tkn 19 (.int .i64 0) rfl (by kernel_rfl) (fun _ _ _ h => h) (.inl ⟨by kernel_rfl, fun w _ => by go_simp⟩) hHeld ?_
      simp only [ly, Act.put]
      refine tkn 22 (.bool true) rfl (by kernel_rfl) (fun _ _ _ h => h) (.inl ⟨by kernel_rfl, fun w _ => by go_simp⟩) hHeld ?_
      simp only [ly, Act.put]
      refine wpAnyH_ready (rs := [20]) (by kernel_rfl) (by simp) (AllReadyH.cons rfl (fun K hK => ?_) AllReadyH.nil)
      have hK' := hid hK
      clear hK
      rw [if_pos (by kernel_rfl)]
      simp only [ly1, ly2, ly3]
      go_simp
      refine (errNum_any _ _).mono ?_
      rintro e w' ⟨rfl, rfl⟩
      refine hK'.out _ _ (by exact hK10.out) (fun hHeld => ?_)
      clear hK' K
      refine tkn 21 (.bool true) rfl (by kernel_rfl) (fun _ _ _ h => h) (.inl ⟨by kernel_rfl, fun w _ => by go_simp⟩) hHeld ?_
      simp only [ly, Act.put]
      refine tkn 23 (.bool true) rfl (by kernel_rfl) (fun _ _ _ h => h) (.inl ⟨by kernel_rfl, fun w _ => by go_simp⟩) hHeld ?_
      simp only [ly, Act.put]
      refine tkn 24 (.bool true) rfl (by kernel_rfl) (fun _ _ _ h => h) (yieldsIf_pick _ _ _ rfl rfl rfl rfl) hHeld ?_
      simp only [ly, Act.put]
      refine tkn 25 (.bool true) rfl (by kernel_rfl) (fun _ _ _ h => h) (yieldsIf_move _ rfl rfl rfl) hHeld ?_
      simp only [ly, Act.put]
      refine tkn 26 (.int .i64 0) rfl (by kernel_rfl) (fun _ _ _ h => h) (.inl ⟨by kernel_rfl, fun w _ => by go_simp⟩) hHeld ?_
      simp only [ly, Act.put]
      refine tkn 29 (.agg (byteCells kh).toArray) rfl (by kernel_rfl) (fun _ _ _ h => h) (yieldsIf_load_any (by kernel_rfl) _ _ rfl ⟨w.heap.size, 0, none⟩ rfl (byteCells kh) _ (fun V hS => hS.anyO) Try.underlying33 rfl (by exact hC2.out)) hHeld ?_
      simp only [ly, Act.put]
      refine wpAnyH_ready (rs := [27]) (by kernel_rfl) (by simp) (AllReadyH.cons rfl (fun K hK => ?_) AllReadyH.nil)
      have hK' := hid hK
      clear hK
      rw [if_pos (by kernel_rfl)]
      simp only [ly1, ly2, ly3]
      go_simp
      refine (errNum_any _ _).mono ?_
      rintro e w' ⟨rfl, rfl⟩
      refine hK'.out _ _ (by exact hK10.out) (fun hHeld => ?_)
      clear hK' K
      refine tkn 28 (.bool true) rfl (by kernel_rfl) (fun _ _ _ h => h) (.inl ⟨by kernel_rfl, fun w _ => by go_simp⟩) hHeld ?_
      simp only [ly, Act.put]
      refine wpAnyH_ready (rs := [30]) (by kernel_rfl) (by simp) (AllReadyH.cons rfl (fun K hK => ?_) AllReadyH.nil)
      have hK' := hid hK
      clear hK
      rw [if_pos (by kernel_rfl)]
      simp only [ly1, ly2, ly3]
      go_simp
      refine (hOa.out _).mono ?_
      rintro e W11 ⟨rfl, hb⟩
      have hK11 := hid (hK10.out.below hb hK10.out.lt)
      have hB11 := hid (below_up hb hB10.out)
      have hA11 := hid (hA10.out.on hb)
      clear hb hK10 hB10 hA10
      refine hK'.out _ _ (by exact hK11.out) (fun hHeld => ?_)
      clear hK' K
      refine tkn 31 (.bool true) rfl (by kernel_rfl) (fun _ _ _ h => h) (yieldsIf_zeql (by kernel_rfl) (.tmp 87) (.tmp 88) _ rfl kh la (by exact hk32.out) (by exact hla32.out) true (by exact hq'.out) rfl rfl) hHeld ?_
      simp only [ly, Act.put]
      refine tkn 32 (.bool true) rfl (by kernel_rfl) (fun _ _ _ h => h) (.inl ⟨by kernel_rfl, fun w _ => by go_simp⟩) hHeld ?_
      simp only [ly, Act.put]
      refine tkn 33 (.bool true) rfl (by kernel_rfl) (fun _ _ _ h => h) (yieldsIf_pick _ _ _ rfl rfl rfl rfl) hHeld ?_
      simp only [ly, Act.put]
      refine tkn 34 (.bool true) rfl (by kernel_rfl) (fun _ _ _ h => h) (yieldsIf_move _ rfl rfl rfl) hHeld ?_
      simp only [ly, Act.put]
      refine tkn 35 (.int .i64 0) rfl (by kernel_rfl) (fun _ _ _ h => h) (.inl ⟨by kernel_rfl, fun w _ => by go_simp⟩) hHeld ?_
      simp only [ly, Act.put]
      refine tkn 38 (.bool true) rfl (by kernel_rfl) (fun _ _ _ h => h) (.inl ⟨by kernel_rfl, fun w _ => by go_simp⟩) hHeld ?_
      simp only [ly, Act.put]
      refine wpAnyH_ready (rs := [36]) (by kernel_rfl) (by simp) (AllReadyH.cons rfl (fun K hK => ?_) AllReadyH.nil)
      have hK' := hid hK
      clear hK
      rw [if_pos (by kernel_rfl)]
      simp only [ly1, ly2, ly3]
      go_simp
      refine (errNum_any _ _).mono ?_
      rintro e w' ⟨rfl, rfl⟩
      refine hK'.out _ _ (by exact hK11.out) (fun hHeld => ?_)
      clear hK' K
      refine tkn 37 (.bool true) rfl (by kernel_rfl) (fun _ _ _ h => h) (.inl ⟨by kernel_rfl, fun w _ => by go_simp⟩) hHeld ?_
      simp only [ly, Act.put]
      refine tkn 39 (.bool true) rfl (by kernel_rfl) (fun _ _ _ h => h) (.inl ⟨by kernel_rfl, fun w _ => by go_simp⟩) hHeld ?_
      simp only [ly, Act.put]
      refine tkn 40 (.bool true) rfl (by kernel_rfl) (fun _ _ _ h => h) (yieldsIf_pick _ _ _ rfl rfl rfl rfl) hHeld ?_
      simp only [ly, Act.put]
      refine tkn 41 (.bool true) rfl (by kernel_rfl) (fun _ _ _ h => h) (yieldsIf_assign _ rfl rfl rfl) hHeld ?_
      simp only [ly, Act.put]
      refine wpAnyH_done (by kernel_rfl) ?_ _
      go_wp2_with fail
      go_ret
      exact ⟨rfl, hB11.out⟩
  · as_aux_lemma =>
      have hq' := hid hq
      have hN := hid (fun V => obNew_code most 1100 (.inr ⟨fun h => m2 h.2, rfl⟩) V)
      clear hq
      have hf : (4094 + (L : Int) ≤ 4096) := by omega
      have m3 : decide (most ≤ 1024) = false := decide_eq_false m2
      have m4 : 1024 < most := by omega
      go_enter Try.func5, Try.ntmps5
      go_wp2_with (first
        | ((with_reducible refine at_slot (some 5) ?_); refine wpList_run rfl (.pointer (some ⟨w.heap.size, 0, none⟩)) (w.alloc (.cells (byteCells kh).toArray 33)) (by kernel_rfl) ?_; rw [hW0'.out])
        | fail)
      refine (awake11_any _).mono ?_
      rintro e W1 ⟨rfl, hb⟩
      have hK1 := hid (hK0.out.below hb hK0.out.lt)
      have hB1 := hid (below_up hb hB0.out)
      clear hb hK0 hB0
      go_wp2_with fail
      refine (hN.out _).mono ?_
      rintro e W2 ⟨p, rfl, hb⟩
      have hK2 := hid (hK1.out.below hb hK1.out.lt)
      have hB2 := hid (below_up hb hB1.out)
      clear hb hK1 hB1
      try (rename_i hKK; refine hKK _ _ ?_; clear hKK)
      go_wp2_with fail
      refine (hN3.out _).mono ?_
      rintro e W3 ⟨rfl, hA, hb⟩
      obtain ⟨b, hbb⟩ : ∃ b, W2.heap.size = b := ⟨_, rfl⟩
      have hneK := hid (show w.heap.size ≠ b from by rw [← hbb]; have := hK2.out.lt; omega)
      have hloB := hid (show w.heap.size ≤ b from by rw [← hbb]; exact hB2.out.size)
      have hK3 := hid (hK2.out.below hb hK2.out.lt)
      have hB3 := hid (below_up hb hB2.out)
      have hA3 := hid hA
      clear hb hK2 hB2 hA
      rw [hbb] at hA3 ⊢
      clear hbb
      try (rename_i hKK; refine hKK _ _ ?_; clear hKK)
      go_wp2_with (first
        | ((with_reducible refine at_slot (some 40) ?_); refine wpList_make_zeros rfl _ _ 51 rfl 5 i0 Try.underlying51 hi hz0 hzz hby _ (4094 + L) rfl rfl (by omega) (by omega) x hx'.out ?_; intro W4 hRz hb; have hcv := run_convert_row (P := Try.prog) (w := W4) (e := 5) 51 9 Try.underlying51 Try.underlying5 Try.underlying9 hxs'.out.symm hRz; have hcv' := hid hcv; clear hcv hRz; have hK4 := hid (hK3.out.below hb hK3.out.lt); have hB4 := hid (below_up hb hB3.out); have hA4 := hid (hA3.out.on hb); clear hb hK3 hB3 hA3)
        | ((with_reducible refine at_slot (some 41) ?_); refine wpList_convert rfl 51 9 (.tmp 40) rfl _ (.string x) _ rfl (by exact hcv'.out) ?_)
        | fail)
      clear hcv'
      refine (hPut.out _ _ _ hA4.out).mono ?_
      rintro e W5 ⟨rfl, hA, hg⟩
      have hA5 := hid hA
      have hB5 := hid (hB4.out.grown hg hB4.out.size (fun i e => by have := Option.some.inj e; have := hloB.out; omega))
      have hK5 := hid (hb_neb hK4.out hg hneK.out)
      clear hA hg hA4 hB4 hK4
      try (rename_i hKK; refine hKK _ _ ?_; clear hKK)
      go_wp2_with (first
        | ((with_reducible refine at_slot (some 14) ?_); refine wpList_run rfl (.pointer (some ⟨W5.heap.size, 0, none⟩)) (W5.alloc (.cells z32 33)) (by kernel_rfl) ?_)
        | ((with_reducible refine at_slot none ?_); refine wpList_store_mid rfl 33 (.tmp 14) (.tmp 46) rfl W5.heap.size 0 (byteCells pa).toArray rfl rfl (by exact hC.out.there W5) (by exact hC.out.size) (by exact hC.out.one) ?_; generalize hW : World.setCells _ _ _ _ = W6; obtain ⟨hN, hb⟩ := hC.out.new hW; have hK6 := hid (hK5.out.below hb hK5.out.lt); have hB6 := hid (below_up hb hB5.out); have hA6 := hid (hA5.out.on hb); have hY6 := hid hN; clear hb hK5 hB5 hA5 hN; clear hW)
        | ((with_reducible refine at_slot (some 49) ?_); refine wpList_load_mid rfl 33 (.tmp 5) rfl w.heap.size 0 rfl (byteCells kh) _ (by exact h_all hK6.out) Try.underlying33 rfl (by exact hC2.out) ?_)
        | fail)
      refine (hAb.out _ _ _ hA6.out).mono ?_
      rintro e W7 ⟨rfl, hA, hg⟩
      have hA7 := hid hA
      have hB7 := hid (hB6.out.grown hg hB6.out.size (fun i e => by have := Option.some.inj e; have := hloB.out; omega))
      have hK7 := hid (hb_neb hK6.out hg hneK.out)
      clear hA hg hA6 hB6 hK6
      try (rename_i hKK; refine hKK _ _ ?_; clear hKK)
      go_wp2_with fail
      refine (hOx.out _).mono ?_
      rintro e W8 ⟨rfl, hb⟩
      have hK8 := hid (hK7.out.below hb hK7.out.lt)
      have hB8 := hid (below_up hb hB7.out)
      have hA8 := hid (hA7.out.on hb)
      clear hb hK7 hB7 hA7
      try (rename_i hKK; refine hKK _ _ ?_; clear hKK)
      go_wp2_with fail
      refine (hAx.out _ _ _ hA8.out).mono ?_
      rintro e W9 ⟨rfl, hA, hg⟩
      have hA9 := hid hA
      have hB9 := hid (hB8.out.grown hg hB8.out.size (fun i e => by have := Option.some.inj e; have := hloB.out; omega))
      have hK9 := hid (hb_neb hK8.out hg hneK.out)
      clear hA hg hA8 hB8 hK8
      try (rename_i hKK; refine hKK _ _ ?_; clear hKK)
      go_wp2_with fail
      have hb : Below W9.heap.size W9 W9.drew := (Below.refl _ _).drew
      have hK10 := hid (hK9.out.below hb hK9.out.lt)
      have hB10 := hid (below_up hb hB9.out)
      have hA10 := hid (hA9.out.on hb)
      clear hb hK9 hB9 hA9
      refine wp_region_held_drew (S := fun V => Holds V w.heap.size 33 (byteCells kh)) (by kernel_rfl) (by exact hK10.out) (fun hHeld => ?_)
      generalize W9.drew = W10 at *
      refine tkn 0 (.int .i64 1100) rfl (by kernel_rfl) (fun _ _ _ h => h) (yieldsIf_move _ rfl rfl rfl) hHeld ?_
      simp only [ly, Act.put]
      refine tkn 3 (.bool false) rfl (by kernel_rfl) (fun _ _ _ h => h) (yieldsIf_move _ rfl rfl rfl) hHeld ?_
      simp only [ly, Act.put]
      refine wpAnyH_ready (rs := [1]) (by kernel_rfl) (by simp) (AllReadyH.cons rfl (fun K hK => ?_) AllReadyH.nil)
      have hK' := hid hK
      clear hK
      rw [if_pos (by kernel_rfl)]
      simp only [ly1, ly2, ly3]
      go_simp
      refine (errNum_any _ _).mono ?_
      rintro e w' ⟨rfl, rfl⟩
      refine hK'.out _ _ (by exact hK10.out) (fun hHeld => ?_)
      clear hK' K
      refine tkn 2 (.bool false) rfl (by kernel_rfl) (fun _ _ _ h => h) (.inl ⟨by kernel_rfl, fun w _ => by go_simp⟩) hHeld ?_
      simp only [ly, Act.put]
      refine tkn 4 (.bool true) rfl (by kernel_rfl) (fun _ _ _ h => h) (.inl ⟨by kernel_rfl, fun w _ => by go_simp⟩) hHeld ?_
      simp only [ly, Act.put]
      refine tkn 5 (.bool true) rfl (by kernel_rfl) (fun _ _ _ h => h) (yieldsIf_move _ rfl rfl rfl) hHeld ?_
      simp only [ly, Act.put]
      refine tkn 6 (.bool false) rfl (by kernel_rfl) (fun _ _ _ h => h) (.inl ⟨by kernel_rfl, fun w _ => by go_simp⟩) hHeld ?_
      simp only [ly, Act.put]
      refine tkn 7 (.bool false) rfl (by kernel_rfl) (fun _ _ _ h => h) (.inl ⟨by kernel_rfl, fun w _ => by go_simp⟩) hHeld ?_
      simp only [ly, Act.put]
      refine tkn 8 (.int .i64 1100) rfl (by kernel_rfl) (fun _ _ _ h => h) (.inl ⟨by kernel_rfl, fun w _ => by go_simp⟩) hHeld ?_
      simp only [ly, Act.put]
      refine wpAnyH_ready (rs := [9]) (by kernel_rfl) (by simp) (AllReadyH.cons rfl (fun K hK => ?_) AllReadyH.nil)
      have hK' := hid hK
      clear hK
      rw [if_pos (by kernel_rfl)]
      simp only [ly1, ly2, ly3]
      go_simp
      refine (errNum_any _ _).mono ?_
      rintro e w' ⟨rfl, rfl⟩
      refine hK'.out _ _ (by exact hK10.out) (fun hHeld => ?_)
      clear hK' K
      refine tkn 10 (.bool true) rfl (by kernel_rfl) (fun _ _ _ h => h) (.inl ⟨by kernel_rfl, fun w _ => by go_simp⟩) hHeld ?_
      simp only [ly, Act.put]
      refine tkn 11 (.bool true) rfl (by kernel_rfl) (fun _ _ _ h => h) (.inl ⟨by kernel_rfl, fun w _ => by go_simp⟩) hHeld ?_
      simp only [ly, Act.put]
      refine tkn 12 (.bool true) rfl (by kernel_rfl) (fun _ _ _ h => h) (yieldsIf_pick _ _ _ rfl rfl rfl rfl) hHeld ?_
      simp only [ly, Act.put]
      refine tkn 13 (.bool true) rfl (by kernel_rfl) (fun _ _ _ h => h) (yieldsIf_move _ rfl rfl rfl) hHeld ?_
      simp only [ly, Act.put]
      refine tkn 14 (.int .i64 0) rfl (by kernel_rfl) (fun _ _ _ h => h) (.inl ⟨by kernel_rfl, fun w _ => by go_simp⟩) hHeld ?_
      simp only [ly, Act.put]
      refine wpAnyH_ready (rs := [15]) (by kernel_rfl) (by simp) (AllReadyH.cons rfl (fun K hK => ?_) AllReadyH.nil)
      have hK' := hid hK
      clear hK
      rw [if_pos (by kernel_rfl)]
      simp only [ly1, ly2, ly3]
      go_simp
      refine (errNum_any _ _).mono ?_
      rintro e w' ⟨rfl, rfl⟩
      refine hK'.out _ _ (by exact hK10.out) (fun hHeld => ?_)
      clear hK' K
      refine tkn 16 (.bool true) rfl (by kernel_rfl) (fun _ _ _ h => h) (.inl ⟨by kernel_rfl, fun w _ => by go_simp⟩) hHeld ?_
      simp only [ly, Act.put]
      refine tkn 17 (.bool true) rfl (by kernel_rfl) (fun _ _ _ h => h) (yieldsIf_pick _ _ _ rfl rfl rfl rfl) hHeld ?_
      simp only [ly, Act.put]
      refine tkn 18 (.bool true) rfl (by kernel_rfl) (fun _ _ _ h => h) (yieldsIf_move _ rfl rfl rfl) hHeld ?_
      simp only [ly, Act.put]
      refine tkn 19 (.int .i64 0) rfl (by kernel_rfl) (fun _ _ _ h => h) (.inl ⟨by kernel_rfl, fun w _ => by go_simp⟩) hHeld ?_
      simp only [ly, Act.put]
      refine tkn 22 (.bool true) rfl (by kernel_rfl) (fun _ _ _ h => h) (.inl ⟨by kernel_rfl, fun w _ => by go_simp⟩) hHeld ?_
      simp only [ly, Act.put]
      refine wpAnyH_ready (rs := [20]) (by kernel_rfl) (by simp) (AllReadyH.cons rfl (fun K hK => ?_) AllReadyH.nil)
      have hK' := hid hK
      clear hK
      rw [if_pos (by kernel_rfl)]
      simp only [ly1, ly2, ly3]
      go_simp
      refine (errNum_any _ _).mono ?_
      rintro e w' ⟨rfl, rfl⟩
      refine hK'.out _ _ (by exact hK10.out) (fun hHeld => ?_)
      clear hK' K
      refine tkn 21 (.bool true) rfl (by kernel_rfl) (fun _ _ _ h => h) (.inl ⟨by kernel_rfl, fun w _ => by go_simp⟩) hHeld ?_
      simp only [ly, Act.put]
      refine tkn 23 (.bool true) rfl (by kernel_rfl) (fun _ _ _ h => h) (.inl ⟨by kernel_rfl, fun w _ => by go_simp⟩) hHeld ?_
      simp only [ly, Act.put]
      refine tkn 24 (.bool true) rfl (by kernel_rfl) (fun _ _ _ h => h) (yieldsIf_pick _ _ _ rfl rfl rfl rfl) hHeld ?_
      simp only [ly, Act.put]
      refine tkn 25 (.bool true) rfl (by kernel_rfl) (fun _ _ _ h => h) (yieldsIf_move _ rfl rfl rfl) hHeld ?_
      simp only [ly, Act.put]
      refine tkn 26 (.int .i64 1100) rfl (by kernel_rfl) (fun _ _ _ h => h) (.inl ⟨by kernel_rfl, fun w _ => by go_simp⟩) hHeld ?_
      simp only [ly, Act.put]
      refine tkn 29 (.agg (byteCells kh).toArray) rfl (by kernel_rfl) (fun _ _ _ h => h) (yieldsIf_load_any (by kernel_rfl) _ _ rfl ⟨w.heap.size, 0, none⟩ rfl (byteCells kh) _ (fun V hS => hS.anyO) Try.underlying33 rfl (by exact hC2.out)) hHeld ?_
      simp only [ly, Act.put]
      refine wpAnyH_ready (rs := [27]) (by kernel_rfl) (by simp) (AllReadyH.cons rfl (fun K hK => ?_) AllReadyH.nil)
      have hK' := hid hK
      clear hK
      rw [if_pos (by kernel_rfl)]
      simp only [ly1, ly2, ly3]
      go_simp
      refine (errNum_any _ _).mono ?_
      rintro e w' ⟨rfl, rfl⟩
      refine hK'.out _ _ (by exact hK10.out) (fun hHeld => ?_)
      clear hK' K
      refine tkn 28 (.bool false) rfl (by kernel_rfl) (fun _ _ _ h => h) (.inl ⟨by kernel_rfl, fun w _ => by go_simp⟩) hHeld ?_
      simp only [ly, Act.put]
      refine wpAnyH_ready (rs := [30]) (by kernel_rfl) (by simp) (AllReadyH.cons rfl (fun K hK => ?_) AllReadyH.nil)
      have hK' := hid hK
      clear hK
      rw [if_pos (by kernel_rfl)]
      simp only [ly1, ly2, ly3]
      go_simp
      refine (hOa.out _).mono ?_
      rintro e W11 ⟨rfl, hb⟩
      have hK11 := hid (hK10.out.below hb hK10.out.lt)
      have hB11 := hid (below_up hb hB10.out)
      have hA11 := hid (hA10.out.on hb)
      clear hb hK10 hB10 hA10
      refine hK'.out _ _ (by exact hK11.out) (fun hHeld => ?_)
      clear hK' K
      refine tkn 31 (.bool false) rfl (by kernel_rfl) (fun _ _ _ h => h) (yieldsIf_zeql (by kernel_rfl) (.tmp 87) (.tmp 88) _ rfl kh la (by exact hk32.out) (by exact hla32.out) false (by exact hq'.out) rfl rfl) hHeld ?_
      simp only [ly, Act.put]
      refine tkn 32 (.bool true) rfl (by kernel_rfl) (fun _ _ _ h => h) (.inl ⟨by kernel_rfl, fun w _ => by go_simp⟩) hHeld ?_
      simp only [ly, Act.put]
      refine tkn 33 (.bool true) rfl (by kernel_rfl) (fun _ _ _ h => h) (yieldsIf_pick _ _ _ rfl rfl rfl rfl) hHeld ?_
      simp only [ly, Act.put]
      refine tkn 34 (.bool true) rfl (by kernel_rfl) (fun _ _ _ h => h) (yieldsIf_move _ rfl rfl rfl) hHeld ?_
      simp only [ly, Act.put]
      refine tkn 35 (.int .i64 0) rfl (by kernel_rfl) (fun _ _ _ h => h) (.inl ⟨by kernel_rfl, fun w _ => by go_simp⟩) hHeld ?_
      simp only [ly, Act.put]
      refine tkn 38 (.bool true) rfl (by kernel_rfl) (fun _ _ _ h => h) (.inl ⟨by kernel_rfl, fun w _ => by go_simp⟩) hHeld ?_
      simp only [ly, Act.put]
      refine wpAnyH_ready (rs := [36]) (by kernel_rfl) (by simp) (AllReadyH.cons rfl (fun K hK => ?_) AllReadyH.nil)
      have hK' := hid hK
      clear hK
      rw [if_pos (by kernel_rfl)]
      simp only [ly1, ly2, ly3]
      go_simp
      refine (errNum_any _ _).mono ?_
      rintro e w' ⟨rfl, rfl⟩
      refine hK'.out _ _ (by exact hK11.out) (fun hHeld => ?_)
      clear hK' K
      refine tkn 37 (.bool true) rfl (by kernel_rfl) (fun _ _ _ h => h) (.inl ⟨by kernel_rfl, fun w _ => by go_simp⟩) hHeld ?_
      simp only [ly, Act.put]
      refine tkn 39 (.bool true) rfl (by kernel_rfl) (fun _ _ _ h => h) (.inl ⟨by kernel_rfl, fun w _ => by go_simp⟩) hHeld ?_
      simp only [ly, Act.put]
      refine tkn 40 (.bool true) rfl (by kernel_rfl) (fun _ _ _ h => h) (yieldsIf_pick _ _ _ rfl rfl rfl rfl) hHeld ?_
      simp only [ly, Act.put]
      refine tkn 41 (.bool true) rfl (by kernel_rfl) (fun _ _ _ h => h) (yieldsIf_assign _ rfl rfl rfl) hHeld ?_
      simp only [ly, Act.put]
      refine wpAnyH_done (by kernel_rfl) ?_ _
      go_wp2_with fail
      go_ret
      exact ⟨rfl, hB11.out⟩
  · as_aux_lemma =>
      have hq' := hid hq
      have hN := hid (fun V => obNew_code most 1100 (.inr ⟨fun h => m2 h.2, rfl⟩) V)
      clear hq
      have hf : ¬ (4094 + (L : Int) ≤ 4096) := by omega
      have m3 : decide (most ≤ 1024) = false := decide_eq_false m2
      have m4 : 1024 < most := by omega
      go_enter Try.func5, Try.ntmps5
      go_wp2_with (first
        | ((with_reducible refine at_slot (some 5) ?_); refine wpList_run rfl (.pointer (some ⟨w.heap.size, 0, none⟩)) (w.alloc (.cells (byteCells kh).toArray 33)) (by kernel_rfl) ?_; rw [hW0'.out])
        | fail)
      refine (awake11_any _).mono ?_
      rintro e W1 ⟨rfl, hb⟩
      have hK1 := hid (hK0.out.below hb hK0.out.lt)
      have hB1 := hid (below_up hb hB0.out)
      clear hb hK0 hB0
      go_wp2_with fail
      refine (hN.out _).mono ?_
      rintro e W2 ⟨p, rfl, hb⟩
      have hK2 := hid (hK1.out.below hb hK1.out.lt)
      have hB2 := hid (below_up hb hB1.out)
      clear hb hK1 hB1
      try (rename_i hKK; refine hKK _ _ ?_; clear hKK)
      go_wp2_with fail
      refine (hN3.out _).mono ?_
      rintro e W3 ⟨rfl, hA, hb⟩
      obtain ⟨b, hbb⟩ : ∃ b, W2.heap.size = b := ⟨_, rfl⟩
      have hneK := hid (show w.heap.size ≠ b from by rw [← hbb]; have := hK2.out.lt; omega)
      have hloB := hid (show w.heap.size ≤ b from by rw [← hbb]; exact hB2.out.size)
      have hK3 := hid (hK2.out.below hb hK2.out.lt)
      have hB3 := hid (below_up hb hB2.out)
      have hA3 := hid hA
      clear hb hK2 hB2 hA
      rw [hbb] at hA3 ⊢
      clear hbb
      try (rename_i hKK; refine hKK _ _ ?_; clear hKK)
      go_wp2_with (first
        | ((with_reducible refine at_slot (some 40) ?_); refine wpList_make_zeros rfl _ _ 51 rfl 5 i0 Try.underlying51 hi hz0 hzz hby _ (4094 + L) rfl rfl (by omega) (by omega) x hx'.out ?_; intro W4 hRz hb; have hcv := run_convert_row (P := Try.prog) (w := W4) (e := 5) 51 9 Try.underlying51 Try.underlying5 Try.underlying9 hxs'.out.symm hRz; have hcv' := hid hcv; clear hcv hRz; have hK4 := hid (hK3.out.below hb hK3.out.lt); have hB4 := hid (below_up hb hB3.out); have hA4 := hid (hA3.out.on hb); clear hb hK3 hB3 hA3)
        | ((with_reducible refine at_slot (some 41) ?_); refine wpList_convert rfl 51 9 (.tmp 40) rfl _ (.string x) _ rfl (by exact hcv'.out) ?_)
        | fail)
      clear hcv'
      refine (hPut.out _ _ _ hA4.out).mono ?_
      rintro e W5 ⟨rfl, hA, hg⟩
      have hA5 := hid hA
      have hB5 := hid (hB4.out.grown hg hB4.out.size (fun i e => by have := Option.some.inj e; have := hloB.out; omega))
      have hK5 := hid (hb_neb hK4.out hg hneK.out)
      clear hA hg hA4 hB4 hK4
      try (rename_i hKK; refine hKK _ _ ?_; clear hKK)
      go_wp2_with (first
        | ((with_reducible refine at_slot (some 14) ?_); refine wpList_run rfl (.pointer (some ⟨W5.heap.size, 0, none⟩)) (W5.alloc (.cells z32 33)) (by kernel_rfl) ?_)
        | ((with_reducible refine at_slot none ?_); refine wpList_store_mid rfl 33 (.tmp 14) (.tmp 46) rfl W5.heap.size 0 (byteCells pa).toArray rfl rfl (by exact hC.out.there W5) (by exact hC.out.size) (by exact hC.out.one) ?_; generalize hW : World.setCells _ _ _ _ = W6; obtain ⟨hN, hb⟩ := hC.out.new hW; have hK6 := hid (hK5.out.below hb hK5.out.lt); have hB6 := hid (below_up hb hB5.out); have hA6 := hid (hA5.out.on hb); have hY6 := hid hN; clear hb hK5 hB5 hA5 hN; clear hW)
        | ((with_reducible refine at_slot (some 49) ?_); refine wpList_load_mid rfl 33 (.tmp 5) rfl w.heap.size 0 rfl (byteCells kh) _ (by exact h_all hK6.out) Try.underlying33 rfl (by exact hC2.out) ?_)
        | fail)
      refine (hAb.out _ _ _ hA6.out).mono ?_
      rintro e W7 ⟨rfl, hA, hg⟩
      have hA7 := hid hA
      have hB7 := hid (hB6.out.grown hg hB6.out.size (fun i e => by have := Option.some.inj e; have := hloB.out; omega))
      have hK7 := hid (hb_neb hK6.out hg hneK.out)
      clear hA hg hA6 hB6 hK6
      try (rename_i hKK; refine hKK _ _ ?_; clear hKK)
      go_wp2_with fail
      refine (hOx.out _).mono ?_
      rintro e W8 ⟨rfl, hb⟩
      have hK8 := hid (hK7.out.below hb hK7.out.lt)
      have hB8 := hid (below_up hb hB7.out)
      have hA8 := hid (hA7.out.on hb)
      clear hb hK7 hB7 hA7
      try (rename_i hKK; refine hKK _ _ ?_; clear hKK)
      go_wp2_with fail
      refine (hAx.out _ _ _ hA8.out).mono ?_
      rintro e W9 ⟨rfl, hA, hg⟩
      have hA9 := hid hA
      have hB9 := hid (hB8.out.grown hg hB8.out.size (fun i e => by have := Option.some.inj e; have := hloB.out; omega))
      have hK9 := hid (hb_neb hK8.out hg hneK.out)
      clear hA hg hA8 hB8 hK8
      try (rename_i hKK; refine hKK _ _ ?_; clear hKK)
      go_wp2_with fail
      have hb : Below W9.heap.size W9 W9.drew := (Below.refl _ _).drew
      have hK10 := hid (hK9.out.below hb hK9.out.lt)
      have hB10 := hid (below_up hb hB9.out)
      have hA10 := hid (hA9.out.on hb)
      clear hb hK9 hB9 hA9
      refine wp_region_held_drew (S := fun V => Holds V w.heap.size 33 (byteCells kh)) (by kernel_rfl) (by exact hK10.out) (fun hHeld => ?_)
      generalize W9.drew = W10 at *
      refine tkn 0 (.int .i64 1100) rfl (by kernel_rfl) (fun _ _ _ h => h) (yieldsIf_move _ rfl rfl rfl) hHeld ?_
      simp only [ly, Act.put]
      refine tkn 3 (.bool false) rfl (by kernel_rfl) (fun _ _ _ h => h) (yieldsIf_move _ rfl rfl rfl) hHeld ?_
      simp only [ly, Act.put]
      refine wpAnyH_ready (rs := [1]) (by kernel_rfl) (by simp) (AllReadyH.cons rfl (fun K hK => ?_) AllReadyH.nil)
      have hK' := hid hK
      clear hK
      rw [if_pos (by kernel_rfl)]
      simp only [ly1, ly2, ly3]
      go_simp
      refine (errNum_any _ _).mono ?_
      rintro e w' ⟨rfl, rfl⟩
      refine hK'.out _ _ (by exact hK10.out) (fun hHeld => ?_)
      clear hK' K
      refine tkn 2 (.bool false) rfl (by kernel_rfl) (fun _ _ _ h => h) (.inl ⟨by kernel_rfl, fun w _ => by go_simp⟩) hHeld ?_
      simp only [ly, Act.put]
      refine tkn 4 (.bool true) rfl (by kernel_rfl) (fun _ _ _ h => h) (.inl ⟨by kernel_rfl, fun w _ => by go_simp⟩) hHeld ?_
      simp only [ly, Act.put]
      refine tkn 5 (.bool true) rfl (by kernel_rfl) (fun _ _ _ h => h) (yieldsIf_move _ rfl rfl rfl) hHeld ?_
      simp only [ly, Act.put]
      refine tkn 6 (.bool false) rfl (by kernel_rfl) (fun _ _ _ h => h) (.inl ⟨by kernel_rfl, fun w _ => by go_simp⟩) hHeld ?_
      simp only [ly, Act.put]
      refine tkn 7 (.bool false) rfl (by kernel_rfl) (fun _ _ _ h => h) (.inl ⟨by kernel_rfl, fun w _ => by go_simp⟩) hHeld ?_
      simp only [ly, Act.put]
      refine tkn 8 (.int .i64 1100) rfl (by kernel_rfl) (fun _ _ _ h => h) (.inl ⟨by kernel_rfl, fun w _ => by go_simp⟩) hHeld ?_
      simp only [ly, Act.put]
      refine wpAnyH_ready (rs := [9]) (by kernel_rfl) (by simp) (AllReadyH.cons rfl (fun K hK => ?_) AllReadyH.nil)
      have hK' := hid hK
      clear hK
      rw [if_pos (by kernel_rfl)]
      simp only [ly1, ly2, ly3]
      go_simp
      refine (errNum_any _ _).mono ?_
      rintro e w' ⟨rfl, rfl⟩
      refine hK'.out _ _ (by exact hK10.out) (fun hHeld => ?_)
      clear hK' K
      refine tkn 10 (.bool true) rfl (by kernel_rfl) (fun _ _ _ h => h) (.inl ⟨by kernel_rfl, fun w _ => by go_simp⟩) hHeld ?_
      simp only [ly, Act.put]
      refine tkn 11 (.bool true) rfl (by kernel_rfl) (fun _ _ _ h => h) (.inl ⟨by kernel_rfl, fun w _ => by go_simp⟩) hHeld ?_
      simp only [ly, Act.put]
      refine tkn 12 (.bool true) rfl (by kernel_rfl) (fun _ _ _ h => h) (yieldsIf_pick _ _ _ rfl rfl rfl rfl) hHeld ?_
      simp only [ly, Act.put]
      refine tkn 13 (.bool true) rfl (by kernel_rfl) (fun _ _ _ h => h) (yieldsIf_move _ rfl rfl rfl) hHeld ?_
      simp only [ly, Act.put]
      refine tkn 14 (.int .i64 0) rfl (by kernel_rfl) (fun _ _ _ h => h) (.inl ⟨by kernel_rfl, fun w _ => by go_simp⟩) hHeld ?_
      simp only [ly, Act.put]
      refine wpAnyH_ready (rs := [15]) (by kernel_rfl) (by simp) (AllReadyH.cons rfl (fun K hK => ?_) AllReadyH.nil)
      have hK' := hid hK
      clear hK
      rw [if_pos (by kernel_rfl)]
      simp only [ly1, ly2, ly3]
      go_simp
      refine (errNum_any _ _).mono ?_
      rintro e w' ⟨rfl, rfl⟩
      refine hK'.out _ _ (by exact hK10.out) (fun hHeld => ?_)
      clear hK' K
      refine tkn 16 (.bool true) rfl (by kernel_rfl) (fun _ _ _ h => h) (.inl ⟨by kernel_rfl, fun w _ => by go_simp⟩) hHeld ?_
      simp only [ly, Act.put]
      refine tkn 17 (.bool true) rfl (by kernel_rfl) (fun _ _ _ h => h) (yieldsIf_pick _ _ _ rfl rfl rfl rfl) hHeld ?_
      simp only [ly, Act.put]
      refine tkn 18 (.bool true) rfl (by kernel_rfl) (fun _ _ _ h => h) (yieldsIf_move _ rfl rfl rfl) hHeld ?_
      simp only [ly, Act.put]
      refine tkn 19 (.int .i64 1100) rfl (by kernel_rfl) (fun _ _ _ h => h) (.inl ⟨by kernel_rfl, fun w _ => by go_simp⟩) hHeld ?_
      simp only [ly, Act.put]
      refine tkn 22 (.bool false) rfl (by kernel_rfl) (fun _ _ _ h => h) (.inl ⟨by kernel_rfl, fun w _ => by go_simp⟩) hHeld ?_
      simp only [ly, Act.put]
      refine wpAnyH_ready (rs := [20]) (by kernel_rfl) (by simp) (AllReadyH.cons rfl (fun K hK => ?_) AllReadyH.nil)
      have hK' := hid hK
      clear hK
      rw [if_pos (by kernel_rfl)]
      simp only [ly1, ly2, ly3]
      go_simp
      refine (errNum_any _ _).mono ?_
      rintro e w' ⟨rfl, rfl⟩
      refine hK'.out _ _ (by exact hK10.out) (fun hHeld => ?_)
      clear hK' K
      refine tkn 21 (.bool false) rfl (by kernel_rfl) (fun _ _ _ h => h) (.inl ⟨by kernel_rfl, fun w _ => by go_simp⟩) hHeld ?_
      simp only [ly, Act.put]
      refine tkn 23 (.bool true) rfl (by kernel_rfl) (fun _ _ _ h => h) (.inl ⟨by kernel_rfl, fun w _ => by go_simp⟩) hHeld ?_
      simp only [ly, Act.put]
      refine tkn 24 (.bool true) rfl (by kernel_rfl) (fun _ _ _ h => h) (yieldsIf_pick _ _ _ rfl rfl rfl rfl) hHeld ?_
      simp only [ly, Act.put]
      refine tkn 25 (.bool true) rfl (by kernel_rfl) (fun _ _ _ h => h) (yieldsIf_move _ rfl rfl rfl) hHeld ?_
      simp only [ly, Act.put]
      refine tkn 26 (.int .i64 0) rfl (by kernel_rfl) (fun _ _ _ h => h) (.inl ⟨by kernel_rfl, fun w _ => by go_simp⟩) hHeld ?_
      simp only [ly, Act.put]
      refine tkn 29 (.agg (byteCells kh).toArray) rfl (by kernel_rfl) (fun _ _ _ h => h) (yieldsIf_load_any (by kernel_rfl) _ _ rfl ⟨w.heap.size, 0, none⟩ rfl (byteCells kh) _ (fun V hS => hS.anyO) Try.underlying33 rfl (by exact hC2.out)) hHeld ?_
      simp only [ly, Act.put]
      refine wpAnyH_ready (rs := [27]) (by kernel_rfl) (by simp) (AllReadyH.cons rfl (fun K hK => ?_) AllReadyH.nil)
      have hK' := hid hK
      clear hK
      rw [if_pos (by kernel_rfl)]
      simp only [ly1, ly2, ly3]
      go_simp
      refine (errNum_any _ _).mono ?_
      rintro e w' ⟨rfl, rfl⟩
      refine hK'.out _ _ (by exact hK10.out) (fun hHeld => ?_)
      clear hK' K
      refine tkn 28 (.bool true) rfl (by kernel_rfl) (fun _ _ _ h => h) (.inl ⟨by kernel_rfl, fun w _ => by go_simp⟩) hHeld ?_
      simp only [ly, Act.put]
      refine wpAnyH_ready (rs := [30]) (by kernel_rfl) (by simp) (AllReadyH.cons rfl (fun K hK => ?_) AllReadyH.nil)
      have hK' := hid hK
      clear hK
      rw [if_pos (by kernel_rfl)]
      simp only [ly1, ly2, ly3]
      go_simp
      refine (hOa.out _).mono ?_
      rintro e W11 ⟨rfl, hb⟩
      have hK11 := hid (hK10.out.below hb hK10.out.lt)
      have hB11 := hid (below_up hb hB10.out)
      have hA11 := hid (hA10.out.on hb)
      clear hb hK10 hB10 hA10
      refine hK'.out _ _ (by exact hK11.out) (fun hHeld => ?_)
      clear hK' K
      refine tkn 31 (.bool true) rfl (by kernel_rfl) (fun _ _ _ h => h) (yieldsIf_zeql (by kernel_rfl) (.tmp 87) (.tmp 88) _ rfl kh la (by exact hk32.out) (by exact hla32.out) true (by exact hq'.out) rfl rfl) hHeld ?_
      simp only [ly, Act.put]
      refine tkn 32 (.bool true) rfl (by kernel_rfl) (fun _ _ _ h => h) (.inl ⟨by kernel_rfl, fun w _ => by go_simp⟩) hHeld ?_
      simp only [ly, Act.put]
      refine tkn 33 (.bool true) rfl (by kernel_rfl) (fun _ _ _ h => h) (yieldsIf_pick _ _ _ rfl rfl rfl rfl) hHeld ?_
      simp only [ly, Act.put]
      refine tkn 34 (.bool true) rfl (by kernel_rfl) (fun _ _ _ h => h) (yieldsIf_move _ rfl rfl rfl) hHeld ?_
      simp only [ly, Act.put]
      refine tkn 35 (.int .i64 1100) rfl (by kernel_rfl) (fun _ _ _ h => h) (.inl ⟨by kernel_rfl, fun w _ => by go_simp⟩) hHeld ?_
      simp only [ly, Act.put]
      refine tkn 38 (.bool false) rfl (by kernel_rfl) (fun _ _ _ h => h) (.inl ⟨by kernel_rfl, fun w _ => by go_simp⟩) hHeld ?_
      simp only [ly, Act.put]
      refine wpAnyH_ready (rs := [36]) (by kernel_rfl) (by simp) (AllReadyH.cons rfl (fun K hK => ?_) AllReadyH.nil)
      have hK' := hid hK
      clear hK
      rw [if_pos (by kernel_rfl)]
      simp only [ly1, ly2, ly3]
      go_simp
      refine (errNum_any _ _).mono ?_
      rintro e w' ⟨rfl, rfl⟩
      refine hK'.out _ _ (by exact hK11.out) (fun hHeld => ?_)
      clear hK' K
      refine tkn 37 (.bool false) rfl (by kernel_rfl) (fun _ _ _ h => h) (.inl ⟨by kernel_rfl, fun w _ => by go_simp⟩) hHeld ?_
      simp only [ly, Act.put]
      refine tkn 39 (.bool true) rfl (by kernel_rfl) (fun _ _ _ h => h) (.inl ⟨by kernel_rfl, fun w _ => by go_simp⟩) hHeld ?_
      simp only [ly, Act.put]
      refine tkn 40 (.bool true) rfl (by kernel_rfl) (fun _ _ _ h => h) (yieldsIf_pick _ _ _ rfl rfl rfl rfl) hHeld ?_
      simp only [ly, Act.put]
      refine tkn 41 (.bool true) rfl (by kernel_rfl) (fun _ _ _ h => h) (yieldsIf_assign _ rfl rfl rfl) hHeld ?_
      simp only [ly, Act.put]
      refine wpAnyH_done (by kernel_rfl) ?_ _
      go_wp2_with fail
      go_ret
      exact ⟨rfl, hB11.out⟩
  · as_aux_lemma =>
      have hq' := hid hq
      have hN := hid (fun V => obNew_code most 1100 (.inr ⟨fun h => m2 h.2, rfl⟩) V)
      clear hq
      have hf : ¬ (4094 + (L : Int) ≤ 4096) := by omega
      have m3 : decide (most ≤ 1024) = false := decide_eq_false m2
      have m4 : 1024 < most := by omega
      go_enter Try.func5, Try.ntmps5
      go_wp2_with (first
        | ((with_reducible refine at_slot (some 5) ?_); refine wpList_run rfl (.pointer (some ⟨w.heap.size, 0, none⟩)) (w.alloc (.cells (byteCells kh).toArray 33)) (by kernel_rfl) ?_; rw [hW0'.out])
        | fail)
      refine (awake11_any _).mono ?_
      rintro e W1 ⟨rfl, hb⟩
      have hK1 := hid (hK0.out.below hb hK0.out.lt)
      have hB1 := hid (below_up hb hB0.out)
      clear hb hK0 hB0
      go_wp2_with fail
      refine (hN.out _).mono ?_
      rintro e W2 ⟨p, rfl, hb⟩
      have hK2 := hid (hK1.out.below hb hK1.out.lt)
      have hB2 := hid (below_up hb hB1.out)
      clear hb hK1 hB1
      try (rename_i hKK; refine hKK _ _ ?_; clear hKK)
      go_wp2_with fail
      refine (hN3.out _).mono ?_
      rintro e W3 ⟨rfl, hA, hb⟩
      obtain ⟨b, hbb⟩ : ∃ b, W2.heap.size = b := ⟨_, rfl⟩
      have hneK := hid (show w.heap.size ≠ b from by rw [← hbb]; have := hK2.out.lt; omega)
      have hloB := hid (show w.heap.size ≤ b from by rw [← hbb]; exact hB2.out.size)
      have hK3 := hid (hK2.out.below hb hK2.out.lt)
      have hB3 := hid (below_up hb hB2.out)
      have hA3 := hid hA
      clear hb hK2 hB2 hA
      rw [hbb] at hA3 ⊢
      clear hbb
      try (rename_i hKK; refine hKK _ _ ?_; clear hKK)
      go_wp2_with (first
        | ((with_reducible refine at_slot (some 40) ?_); refine wpList_make_zeros rfl _ _ 51 rfl 5 i0 Try.underlying51 hi hz0 hzz hby _ (4094 + L) rfl rfl (by omega) (by omega) x hx'.out ?_; intro W4 hRz hb; have hcv := run_convert_row (P := Try.prog) (w := W4) (e := 5) 51 9 Try.underlying51 Try.underlying5 Try.underlying9 hxs'.out.symm hRz; have hcv' := hid hcv; clear hcv hRz; have hK4 := hid (hK3.out.below hb hK3.out.lt); have hB4 := hid (below_up hb hB3.out); have hA4 := hid (hA3.out.on hb); clear hb hK3 hB3 hA3)
        | ((with_reducible refine at_slot (some 41) ?_); refine wpList_convert rfl 51 9 (.tmp 40) rfl _ (.string x) _ rfl (by exact hcv'.out) ?_)
        | fail)
      clear hcv'
      refine (hPut.out _ _ _ hA4.out).mono ?_
      rintro e W5 ⟨rfl, hA, hg⟩
      have hA5 := hid hA
      have hB5 := hid (hB4.out.grown hg hB4.out.size (fun i e => by have := Option.some.inj e; have := hloB.out; omega))
      have hK5 := hid (hb_neb hK4.out hg hneK.out)
      clear hA hg hA4 hB4 hK4
      try (rename_i hKK; refine hKK _ _ ?_; clear hKK)
      go_wp2_with (first
        | ((with_reducible refine at_slot (some 14) ?_); refine wpList_run rfl (.pointer (some ⟨W5.heap.size, 0, none⟩)) (W5.alloc (.cells z32 33)) (by kernel_rfl) ?_)
        | ((with_reducible refine at_slot none ?_); refine wpList_store_mid rfl 33 (.tmp 14) (.tmp 46) rfl W5.heap.size 0 (byteCells pa).toArray rfl rfl (by exact hC.out.there W5) (by exact hC.out.size) (by exact hC.out.one) ?_; generalize hW : World.setCells _ _ _ _ = W6; obtain ⟨hN, hb⟩ := hC.out.new hW; have hK6 := hid (hK5.out.below hb hK5.out.lt); have hB6 := hid (below_up hb hB5.out); have hA6 := hid (hA5.out.on hb); have hY6 := hid hN; clear hb hK5 hB5 hA5 hN; clear hW)
        | ((with_reducible refine at_slot (some 49) ?_); refine wpList_load_mid rfl 33 (.tmp 5) rfl w.heap.size 0 rfl (byteCells kh) _ (by exact h_all hK6.out) Try.underlying33 rfl (by exact hC2.out) ?_)
        | fail)
      refine (hAb.out _ _ _ hA6.out).mono ?_
      rintro e W7 ⟨rfl, hA, hg⟩
      have hA7 := hid hA
      have hB7 := hid (hB6.out.grown hg hB6.out.size (fun i e => by have := Option.some.inj e; have := hloB.out; omega))
      have hK7 := hid (hb_neb hK6.out hg hneK.out)
      clear hA hg hA6 hB6 hK6
      try (rename_i hKK; refine hKK _ _ ?_; clear hKK)
      go_wp2_with fail
      refine (hOx.out _).mono ?_
      rintro e W8 ⟨rfl, hb⟩
      have hK8 := hid (hK7.out.below hb hK7.out.lt)
      have hB8 := hid (below_up hb hB7.out)
      have hA8 := hid (hA7.out.on hb)
      clear hb hK7 hB7 hA7
      try (rename_i hKK; refine hKK _ _ ?_; clear hKK)
      go_wp2_with fail
      refine (hAx.out _ _ _ hA8.out).mono ?_
      rintro e W9 ⟨rfl, hA, hg⟩
      have hA9 := hid hA
      have hB9 := hid (hB8.out.grown hg hB8.out.size (fun i e => by have := Option.some.inj e; have := hloB.out; omega))
      have hK9 := hid (hb_neb hK8.out hg hneK.out)
      clear hA hg hA8 hB8 hK8
      try (rename_i hKK; refine hKK _ _ ?_; clear hKK)
      go_wp2_with fail
      have hb : Below W9.heap.size W9 W9.drew := (Below.refl _ _).drew
      have hK10 := hid (hK9.out.below hb hK9.out.lt)
      have hB10 := hid (below_up hb hB9.out)
      have hA10 := hid (hA9.out.on hb)
      clear hb hK9 hB9 hA9
      refine wp_region_held_drew (S := fun V => Holds V w.heap.size 33 (byteCells kh)) (by kernel_rfl) (by exact hK10.out) (fun hHeld => ?_)
      generalize W9.drew = W10 at *
      refine tkn 0 (.int .i64 1100) rfl (by kernel_rfl) (fun _ _ _ h => h) (yieldsIf_move _ rfl rfl rfl) hHeld ?_
      simp only [ly, Act.put]
      refine tkn 3 (.bool false) rfl (by kernel_rfl) (fun _ _ _ h => h) (yieldsIf_move _ rfl rfl rfl) hHeld ?_
      simp only [ly, Act.put]
      refine wpAnyH_ready (rs := [1]) (by kernel_rfl) (by simp) (AllReadyH.cons rfl (fun K hK => ?_) AllReadyH.nil)
      have hK' := hid hK
      clear hK
      rw [if_pos (by kernel_rfl)]
      simp only [ly1, ly2, ly3]
      go_simp
      refine (errNum_any _ _).mono ?_
      rintro e w' ⟨rfl, rfl⟩
      refine hK'.out _ _ (by exact hK10.out) (fun hHeld => ?_)
      clear hK' K
      refine tkn 2 (.bool false) rfl (by kernel_rfl) (fun _ _ _ h => h) (.inl ⟨by kernel_rfl, fun w _ => by go_simp⟩) hHeld ?_
      simp only [ly, Act.put]
      refine tkn 4 (.bool true) rfl (by kernel_rfl) (fun _ _ _ h => h) (.inl ⟨by kernel_rfl, fun w _ => by go_simp⟩) hHeld ?_
      simp only [ly, Act.put]
      refine tkn 5 (.bool true) rfl (by kernel_rfl) (fun _ _ _ h => h) (yieldsIf_move _ rfl rfl rfl) hHeld ?_
      simp only [ly, Act.put]
      refine tkn 6 (.bool false) rfl (by kernel_rfl) (fun _ _ _ h => h) (.inl ⟨by kernel_rfl, fun w _ => by go_simp⟩) hHeld ?_
      simp only [ly, Act.put]
      refine tkn 7 (.bool false) rfl (by kernel_rfl) (fun _ _ _ h => h) (.inl ⟨by kernel_rfl, fun w _ => by go_simp⟩) hHeld ?_
      simp only [ly, Act.put]
      refine tkn 8 (.int .i64 1100) rfl (by kernel_rfl) (fun _ _ _ h => h) (.inl ⟨by kernel_rfl, fun w _ => by go_simp⟩) hHeld ?_
      simp only [ly, Act.put]
      refine wpAnyH_ready (rs := [9]) (by kernel_rfl) (by simp) (AllReadyH.cons rfl (fun K hK => ?_) AllReadyH.nil)
      have hK' := hid hK
      clear hK
      rw [if_pos (by kernel_rfl)]
      simp only [ly1, ly2, ly3]
      go_simp
      refine (errNum_any _ _).mono ?_
      rintro e w' ⟨rfl, rfl⟩
      refine hK'.out _ _ (by exact hK10.out) (fun hHeld => ?_)
      clear hK' K
      refine tkn 10 (.bool true) rfl (by kernel_rfl) (fun _ _ _ h => h) (.inl ⟨by kernel_rfl, fun w _ => by go_simp⟩) hHeld ?_
      simp only [ly, Act.put]
      refine tkn 11 (.bool true) rfl (by kernel_rfl) (fun _ _ _ h => h) (.inl ⟨by kernel_rfl, fun w _ => by go_simp⟩) hHeld ?_
      simp only [ly, Act.put]
      refine tkn 12 (.bool true) rfl (by kernel_rfl) (fun _ _ _ h => h) (yieldsIf_pick _ _ _ rfl rfl rfl rfl) hHeld ?_
      simp only [ly, Act.put]
      refine tkn 13 (.bool true) rfl (by kernel_rfl) (fun _ _ _ h => h) (yieldsIf_move _ rfl rfl rfl) hHeld ?_
      simp only [ly, Act.put]
      refine tkn 14 (.int .i64 0) rfl (by kernel_rfl) (fun _ _ _ h => h) (.inl ⟨by kernel_rfl, fun w _ => by go_simp⟩) hHeld ?_
      simp only [ly, Act.put]
      refine wpAnyH_ready (rs := [15]) (by kernel_rfl) (by simp) (AllReadyH.cons rfl (fun K hK => ?_) AllReadyH.nil)
      have hK' := hid hK
      clear hK
      rw [if_pos (by kernel_rfl)]
      simp only [ly1, ly2, ly3]
      go_simp
      refine (errNum_any _ _).mono ?_
      rintro e w' ⟨rfl, rfl⟩
      refine hK'.out _ _ (by exact hK10.out) (fun hHeld => ?_)
      clear hK' K
      refine tkn 16 (.bool true) rfl (by kernel_rfl) (fun _ _ _ h => h) (.inl ⟨by kernel_rfl, fun w _ => by go_simp⟩) hHeld ?_
      simp only [ly, Act.put]
      refine tkn 17 (.bool true) rfl (by kernel_rfl) (fun _ _ _ h => h) (yieldsIf_pick _ _ _ rfl rfl rfl rfl) hHeld ?_
      simp only [ly, Act.put]
      refine tkn 18 (.bool true) rfl (by kernel_rfl) (fun _ _ _ h => h) (yieldsIf_move _ rfl rfl rfl) hHeld ?_
      simp only [ly, Act.put]
      refine tkn 19 (.int .i64 1100) rfl (by kernel_rfl) (fun _ _ _ h => h) (.inl ⟨by kernel_rfl, fun w _ => by go_simp⟩) hHeld ?_
      simp only [ly, Act.put]
      refine tkn 22 (.bool false) rfl (by kernel_rfl) (fun _ _ _ h => h) (.inl ⟨by kernel_rfl, fun w _ => by go_simp⟩) hHeld ?_
      simp only [ly, Act.put]
      refine wpAnyH_ready (rs := [20]) (by kernel_rfl) (by simp) (AllReadyH.cons rfl (fun K hK => ?_) AllReadyH.nil)
      have hK' := hid hK
      clear hK
      rw [if_pos (by kernel_rfl)]
      simp only [ly1, ly2, ly3]
      go_simp
      refine (errNum_any _ _).mono ?_
      rintro e w' ⟨rfl, rfl⟩
      refine hK'.out _ _ (by exact hK10.out) (fun hHeld => ?_)
      clear hK' K
      refine tkn 21 (.bool false) rfl (by kernel_rfl) (fun _ _ _ h => h) (.inl ⟨by kernel_rfl, fun w _ => by go_simp⟩) hHeld ?_
      simp only [ly, Act.put]
      refine tkn 23 (.bool true) rfl (by kernel_rfl) (fun _ _ _ h => h) (.inl ⟨by kernel_rfl, fun w _ => by go_simp⟩) hHeld ?_
      simp only [ly, Act.put]
      refine tkn 24 (.bool true) rfl (by kernel_rfl) (fun _ _ _ h => h) (yieldsIf_pick _ _ _ rfl rfl rfl rfl) hHeld ?_
      simp only [ly, Act.put]
      refine tkn 25 (.bool true) rfl (by kernel_rfl) (fun _ _ _ h => h) (yieldsIf_move _ rfl rfl rfl) hHeld ?_
      simp only [ly, Act.put]
      refine tkn 26 (.int .i64 1100) rfl (by kernel_rfl) (fun _ _ _ h => h) (.inl ⟨by kernel_rfl, fun w _ => by go_simp⟩) hHeld ?_
      simp only [ly, Act.put]
      refine tkn 29 (.agg (byteCells kh).toArray) rfl (by kernel_rfl) (fun _ _ _ h => h) (yieldsIf_load_any (by kernel_rfl) _ _ rfl ⟨w.heap.size, 0, none⟩ rfl (byteCells kh) _ (fun V hS => hS.anyO) Try.underlying33 rfl (by exact hC2.out)) hHeld ?_
      simp only [ly, Act.put]
      refine wpAnyH_ready (rs := [27]) (by kernel_rfl) (by simp) (AllReadyH.cons rfl (fun K hK => ?_) AllReadyH.nil)
      have hK' := hid hK
      clear hK
      rw [if_pos (by kernel_rfl)]
      simp only [ly1, ly2, ly3]
      go_simp
      refine (errNum_any _ _).mono ?_
      rintro e w' ⟨rfl, rfl⟩
      refine hK'.out _ _ (by exact hK10.out) (fun hHeld => ?_)
      clear hK' K
      refine tkn 28 (.bool false) rfl (by kernel_rfl) (fun _ _ _ h => h) (.inl ⟨by kernel_rfl, fun w _ => by go_simp⟩) hHeld ?_
      simp only [ly, Act.put]
      refine wpAnyH_ready (rs := [30]) (by kernel_rfl) (by simp) (AllReadyH.cons rfl (fun K hK => ?_) AllReadyH.nil)
      have hK' := hid hK
      clear hK
      rw [if_pos (by kernel_rfl)]
      simp only [ly1, ly2, ly3]
      go_simp
      refine (hOa.out _).mono ?_
      rintro e W11 ⟨rfl, hb⟩
      have hK11 := hid (hK10.out.below hb hK10.out.lt)
      have hB11 := hid (below_up hb hB10.out)
      have hA11 := hid (hA10.out.on hb)
      clear hb hK10 hB10 hA10
      refine hK'.out _ _ (by exact hK11.out) (fun hHeld => ?_)
      clear hK' K
      refine tkn 31 (.bool false) rfl (by kernel_rfl) (fun _ _ _ h => h) (yieldsIf_zeql (by kernel_rfl) (.tmp 87) (.tmp 88) _ rfl kh la (by exact hk32.out) (by exact hla32.out) false (by exact hq'.out) rfl rfl) hHeld ?_
      simp only [ly, Act.put]
      refine tkn 32 (.bool true) rfl (by kernel_rfl) (fun _ _ _ h => h) (.inl ⟨by kernel_rfl, fun w _ => by go_simp⟩) hHeld ?_
      simp only [ly, Act.put]
      refine tkn 33 (.bool true) rfl (by kernel_rfl) (fun _ _ _ h => h) (yieldsIf_pick _ _ _ rfl rfl rfl rfl) hHeld ?_
      simp only [ly, Act.put]
      refine tkn 34 (.bool true) rfl (by kernel_rfl) (fun _ _ _ h => h) (yieldsIf_move _ rfl rfl rfl) hHeld ?_
      simp only [ly, Act.put]
      refine tkn 35 (.int .i64 1100) rfl (by kernel_rfl) (fun _ _ _ h => h) (.inl ⟨by kernel_rfl, fun w _ => by go_simp⟩) hHeld ?_
      simp only [ly, Act.put]
      refine tkn 38 (.bool false) rfl (by kernel_rfl) (fun _ _ _ h => h) (.inl ⟨by kernel_rfl, fun w _ => by go_simp⟩) hHeld ?_
      simp only [ly, Act.put]
      refine wpAnyH_ready (rs := [36]) (by kernel_rfl) (by simp) (AllReadyH.cons rfl (fun K hK => ?_) AllReadyH.nil)
      have hK' := hid hK
      clear hK
      rw [if_pos (by kernel_rfl)]
      simp only [ly1, ly2, ly3]
      go_simp
      refine (errNum_any _ _).mono ?_
      rintro e w' ⟨rfl, rfl⟩
      refine hK'.out _ _ (by exact hK11.out) (fun hHeld => ?_)
      clear hK' K
      refine tkn 37 (.bool false) rfl (by kernel_rfl) (fun _ _ _ h => h) (.inl ⟨by kernel_rfl, fun w _ => by go_simp⟩) hHeld ?_
      simp only [ly, Act.put]
      refine tkn 39 (.bool true) rfl (by kernel_rfl) (fun _ _ _ h => h) (.inl ⟨by kernel_rfl, fun w _ => by go_simp⟩) hHeld ?_
      simp only [ly, Act.put]
      refine tkn 40 (.bool true) rfl (by kernel_rfl) (fun _ _ _ h => h) (yieldsIf_pick _ _ _ rfl rfl rfl rfl) hHeld ?_
      simp only [ly, Act.put]
      refine tkn 41 (.bool true) rfl (by kernel_rfl) (fun _ _ _ h => h) (yieldsIf_assign _ rfl rfl rfl) hHeld ?_
      simp only [ly, Act.put]
      refine wpAnyH_done (by kernel_rfl) ?_ _
      go_wp2_with fail
      go_ret
      exact ⟨rfl, hB11.out⟩


end Go.Proofs.Ytbclmkpigdeilaa
