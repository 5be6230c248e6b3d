/- Layer 13: the reference's GetDir: the walk. -/
import Derived.Test.YtapegklffglnoaaDirO
namespace Go.Proofs.Ytapegklffglnoaa
open Go.RowKit

set_option maxRecDepth 100000 in
set_option maxHeartbeats 8000000 in
theorem rGetDir_any (s : ByteArray) (hS : s.size ≤ 140737488351232) (R : List Ent) (x : Int) (hs : egetS s = (R, x)) (w : World) : Calls Try.prog 25 #[.string s] w (EGetPost R x w) := by
  obtain ⟨i0, hi, hz0, hz1, hz2⟩ := info_parts Try.infoEntI
  by_cases h2 : s.size < 2
  · rw [egetS_short h2] at hs
    obtain ⟨rfl, rfl⟩ := Prod.mk.inj hs
    have h2' : (s.size : Int) < 2 := by omega
    clear h2 hs
    go_enter Try.func25, Try.ntmps25
    go_wp2_with fail
    go_ret2
    exact EGetPost.nil (Below.refl _ _)
  have h2' : ¬ (s.size : Int) < 2 := by omega
  have hp0 : 0 < s.size := by omega
  have hp1 : 1 < s.size := by omega
  have hp1i : (1 : Int) < (s.size : Int) := by omega
  by_cases hc : s[0]'hp0 ≠ 68
  · rw [egetS_mark (by omega) hc] at hs
    obtain ⟨rfl, rfl⟩ := Prod.mk.inj hs
    have hc' : (((s[0]'hp0).toNat : Int) != 68) = true := by
      rw [bne_iff_ne]
      intro e
      exact hc (UInt8.toNat_inj.1 (by show (s[0]'hp0).toNat = 68; omega))
    clear h2 hs hc
    go_enter Try.func25, Try.ntmps25
    go_wp2_with fail
    go_ret2
    exact EGetPost.nil (Below.refl _ _)
  replace hc : s[0]'hp0 = 68 := Decidable.not_not.1 hc
  obtain ⟨R2, l2, f2, e2⟩ : ∃ p q r, eitemsS (s[1]'hp1).toNat (s.extract 2 s.size) false = (p, q, r) := ⟨_, _, _, rfl⟩
  rw [egetS_head (by omega) hc e2] at hs
  have hc0 : ((s[0]'hp0).toNat : Int) = 68 := by rw [hc]; rfl
  have hc' : (((s[0]'hp0).toNat : Int) != 68) = false := by rw [hc0]; rfl
  obtain ⟨m, hm⟩ : ∃ m, (s[1]'hp1).toNat = m := ⟨_, rfl⟩
  have hm256 : m < 256 := by rw [← hm]; exact (s[1]'hp1).toNat_lt
  rw [hm] at e2
  have hmw := IntWalk.i64_in (m : Int) (by omega)
  obtain ⟨g, hg⟩ : ∃ g, w.heap.size = g := ⟨_, rfl⟩
  obtain ⟨W0, hW0⟩ : ∃ W0, w.alloc (.cells #[.string s, .int .i64 2] 102) = W0 := ⟨_, rfl⟩
  have hRR : RR W0 g s 2 := by rw [← hW0, ← hg]; exact Holds.new w _ _
  have hB0 : Below w.heap.size w W0 := by rw [← hW0]; exact (Below.refl _ _).alloc (Nat.le_refl _) _
  have hge : w.heap.size ≤ g := by omega
  have hs' := hid hs
  have e2' := hid e2
  have hRR' := hid hRR
  have hB0' := hid hB0
  have hW0' := hid hW0
  have hg' := hid hg
  have hS' := hid hS
  have hsz2 : 2 ≤ s.size := by omega
  clear h2 hs hc hc0 e2 hRR hB0 hW0 hg hS
  go_enter Try.func25, Try.ntmps25
  go_wp2_with (first
    | ((with_reducible refine at_slot (some 23) ?_); refine wpList_run rfl (.pointer (some ⟨w.heap.size, 0, none⟩)) (w.alloc (.cells #[.string s, .int .i64 2] 102)) (by kernel_rfl) ?_; rw [hW0'.out, hg'.out])
    | fail)
  go_loopw [5, 6] (fun o i wr => ∃ (j : Nat) (A1 : Option Addr) (c1 p : Nat) (xs : List Ent) (lj : ByteArray) (Y : List Ent), j ≤ m ∧ xs.length = j ∧ i = .int .i64 (j : Int) ∧ o = .slice A1 j c1 ∧ wr.ownsRow w.heap.size 60 3 (.slice A1 j c1) j (entCells xs) ∧ (∀ q ∈ xs, q.fine) ∧ RR wr g s p ∧ p ≤ s.size ∧ s.extract p s.size = lj ∧ eitemsS (m - j) lj false = (Y, l2, f2) ∧ (f2 = false → R2 = xs ++ Y) ∧ Below w.heap.size w wr) (fun _ i _ => m - (intOf i).toNat)
  case atStart => exact ⟨0, none, 0, 2, [], _, R2, Nat.zero_le _, rfl, rfl, rfl, World.ownsRow_nil _ _ _ _, (fun q hq => by cases hq), hRR'.out, hsz2, rfl, e2'.out, fun _ => rfl, hB0'.out⟩
  case round =>
    obtain ⟨j, A1, c1, p, xs, lj, Y, hj, hxl, rfl, rfl, hown, hfx, hRRj, hpj, hlj, hit, hR2, hBr⟩ := hrel
    have hown' := hid hown
    have hfx' := hid hfx
    have hlj' := hid hlj
    have hR2' := hid hR2
    have hBr' := hid hBr
    have hxl' := hid hxl
    have hs48 : s.size ≤ 140737488351232 := hS'.out
    have hljs : lj.size ≤ s.size := by rw [← hlj, ByteArray.size_extract]; omega
    clear hown hfx hR2 hBr hxl
    by_cases hlt : j < m
    · have hlt' : (j : Int) < (m : Int) := by omega
      have hkw := IntWalk.i64_in ((j : Int) + 1) (by omega)
      rw [show m - j = (m - (j + 1)) + 1 from by omega] at hit
      have hit' := hid hit
      obtain ⟨x1, k1, l1, r1⟩ : ∃ a b c, readText lj 1 = (a, b, c) := ⟨_, _, _, rfl⟩
      obtain ⟨x2, k2, l2', r2⟩ : ∃ a b c, readNum l1 1 = (a, b, c) := ⟨_, _, _, rfl⟩
      obtain ⟨x3, k3, l3, r3⟩ : ∃ a b c, readNum l2' 1 = (a, b, c) := ⟨_, _, _, rfl⟩
      have r1' := hid r1
      have r2' := hid r2
      have r3' := hid r3
      have hRRj' := hid hRRj
      have q1 := hid (refRText_any g s p hpj hs48 1 wr hRRj lj hlj x1 k1 l1 r1)
      have hx1s := (readText_less r1).2
      clear hit hlj r1 r2 r3 hRRj
      go_wp2_with fail
      refine q1.out.mono ?_
      rintro e W1 ⟨rfl, p1, hRR1, hp1', hl1, hg1⟩
      have hB1 := hid (below_of_only hBr'.out hg1 hge hBr'.out.size)
      have hown1 := hid (own_grown hown'.out hg1 (own_apart hown'.out hRRj'.out (by decide)))
      have hRR1' := hid hRR1
      have q2 := hid (refRNum_any g s p1 hp1' hs48 1 W1 hRR1 l1 hl1 x2 k2 l2' r2'.out)
      clear hRR1 hl1 hg1
      go_wp2_with fail
      refine q2.out.mono ?_
      rintro e W2 ⟨rfl, p2, hRR2, hp2, hl2, hg2⟩
      have hB2 := hid (below_of_only hB1.out hg2 hge hB1.out.size)
      have hown2 := hid (own_grown hown1.out hg2 (own_apart hown1.out hRR1'.out (by decide)))
      have hRR2' := hid hRR2
      have q3 := hid (refRNum_any g s p2 hp2 hs48 1 W2 hRR2 l2' hl2 x3 k3 l3 r3'.out)
      clear hRR2 hl2 hg2
      go_wp2_with fail
      refine q3.out.mono ?_
      rintro e W3 ⟨rfl, p3, hRR3x, hp3, hl3, hg3⟩
      have hB3 := hid (below_of_only hB2.out hg3 hge hB2.out.size)
      have hown3 := hid (own_grown hown2.out hg3 (own_apart hown2.out hRR2'.out (by decide)))
      have hRR3 := hid hRR3x
      have hl3' := hid hl3
      clear hRR3x hl3 hg3 q1 q2 q3
      by_cases hk : k1 = 0 ∧ k2 = 0 ∧ k3 = 0
      · obtain ⟨rfl, rfl, rfl⟩ := hk
        have hr := rentS_ok r1'.out r2'.out r3'.out
        obtain ⟨Y2, hy1, hy2, hy3⟩ := eitemsS_next hr hit'.out
        have hy1' := hid hy1
        have hy3' := hid hy3
        have hfx2 := hid (show ∀ q ∈ xs ++ [(⟨x1, x2, x3⟩ : Ent)], q.fine from fun q hq => by
          rcases List.mem_append.1 hq with hq | hq
          · exact hfx'.out q hq
          · rw [List.mem_singleton.1 hq]; show x1.size ≤ _; omega)
        clear hr hy1 hy2 hy3
        go_wp2_with (first
          | ((with_reducible refine at_slot (some 62) ?_); refine wpList_pushOne rfl rfl 36 60 (.tmp 61) (.tmp 56) (.tmp 62) rfl rfl w.heap.size i0 _ 3 32 Try.underlying36 hi hz0 hz1 hz2 rfl (by decide) (by decide) A1 j c1 (entCells xs) (⟨x1, x2, x3⟩ : Ent).cells rfl rfl rfl rfl (Ent.ones _) (by omega) (by omega) (by exact hown3.out) (by exact hB3.out.size) ?_; intro A2 c2 v1 hrow hb3 hk3; have hrow1 := hid hrow; have hBv1 := hid (hB3.out.trans hb3); have hRR4 := hid (hk3 g _ _ hRR3.out (by decide)); clear hrow hb3 hk3)
          | fail)
        go_roundw
        case rel => exact ⟨j + 1, A2, c2, p3, xs ++ [⟨x1, x2, x3⟩], l3, Y2, by omega, by rw [List.length_append, hxl'.out]; rfl, by go_num, rfl, by rw [entCells_append]; simpa [entCells] using hrow1.out, hfx2.out, hRR4.out, hp3, hl3'.out, hy1'.out, fun h => by rw [hR2'.out h, hy3'.out h]; simp, hBv1.out⟩
        case measure => simp [intOf]; omega
      · obtain ⟨y, l', hr⟩ := rentS_bad r1'.out r2'.out r3'.out hk
        have hf : f2 = true := by
          have h1 := hit'.out
          rw [eitemsS_fail hr] at h1
          exact (Prod.mk.inj (Prod.mk.inj h1).2).2.symm
        have hs2 := hs'.out
        rw [hf] at hs2
        obtain ⟨rfl, rfl⟩ := Prod.mk.inj (show (([] : List Ent), (1300 : Int)) = (R, x) from hs2)
        clear hr hf hs2
        by_cases hk1 : k1 = 0
        · subst hk1
          by_cases hk2 : k2 = 0
          · subst hk2
            have hk3 : (k3 != 0) = true := by
              rw [bne_iff_ne]
              exact fun e => hk ⟨rfl, rfl, e⟩
            clear hk
            go_wp2_with fail
            go_ret2
            exact EGetPost.nil hB3.out
          · have hk2' : (k2 != 0) = true := by rw [bne_iff_ne]; exact hk2
            clear hk hk2
            go_wp2_with fail
            go_ret2
            exact EGetPost.nil hB3.out
        · have hk1' : (k1 != 0) = true := by rw [bne_iff_ne]; exact hk1
          clear hk hk1
          go_wp2_with fail
          go_ret2
          exact EGetPost.nil hB3.out
    · have hlt' : ¬ (j : Int) < (m : Int) := by omega
      obtain rfl : j = m := by omega
      rw [Nat.sub_self] at hit
      obtain ⟨rfl, hit2⟩ := Prod.mk.inj hit
      obtain ⟨rfl, rfl⟩ := Prod.mk.inj hit2
      have hxs : R2 = xs := by rw [hR2'.out rfl, List.append_nil]
      subst hxs
      have q1 := hid (refLeft_any g s p hpj hs48 wr hRRj (lj.size : Int) (by rw [← hlj, ByteArray.size_extract]; omega))
      have hs2 := hs'.out
      rw [Bool.not_false, Bool.true_and] at hs2
      by_cases hl0 : lj.size = 0
      · have hl0' : ((lj.size : Int) != 0) = false := by rw [hl0]; rfl
        rw [decide_eq_true hl0, Bool.true_and] at hs2
        have hI : Ents wr wr.heap.size A1 j R2 := by
          have h := ents_of_own (xs := R2) (A := A1) (c := c1) (n0 := w.heap.size) (w := wr) hfx'.out (by rw [hxl'.out]; exact hown'.out)
          rwa [hxl'.out] at h
        have hM := hid (fun k => rDirMay_any A1 j c1 wr.heap.size R2 (wr.drewN k) (hI.below (below_drewN (Below.refl _ _) k)) (Nat.le_refl _) (by omega))
        have hs2' := hid hs2
        clear hit hit2 hlj hs2 hI hRRj hl0
        go_wp2_with fail
        refine q1.out.mono ?_
        rintro e w' ⟨rfl, k, rfl⟩
        cases hd : dirB R2 with
        | true =>
          have hs3 := hs2'.out
          rw [hd, if_pos rfl] at hs3
          obtain ⟨hRR2, hxx⟩ := Prod.mk.inj hs3
          have hM2 := hM.out k
          rw [hd] at hM2
          have hM' := hid hM2
          have hRR2' := hid hRR2
          subst hxx
          clear hs3 hd hM2 hRR2 hM
          go_wp2_with fail
          refine hM'.out.mono ?_
          rintro e W2 ⟨rfl, hb⟩
          have hb' := hid hb
          clear hb
          go_wp2_with fail
          go_ret2
          rw [← hRR2'.out]
          exact ⟨A1, c1, by rw [hxl'.out]; rfl, by rw [hxl'.out]; exact own_stays hown'.out ((below_drewN (Below.refl _ _) k).trans hb'.out), hfx'.out, hBr'.out.trans (((below_drewN (Below.refl _ _) k).trans hb'.out).mono hBr'.out.size)⟩
        | false =>
          have hs3 := hs2'.out
          rw [hd, if_neg (by decide)] at hs3
          obtain ⟨rfl, rfl⟩ := Prod.mk.inj hs3
          have hM2 := hM.out k
          rw [hd] at hM2
          have hM' := hid hM2
          clear hs3 hd hM2 hM
          go_wp2_with fail
          refine hM'.out.mono ?_
          rintro e W2 ⟨rfl, hb⟩
          have hb' := hid hb
          clear hb
          go_wp2_with fail
          go_ret2
          exact EGetPost.nil (hBr'.out.trans (((below_drewN (Below.refl _ _) k).trans hb'.out).mono hBr'.out.size))
      · have hl0' : ((lj.size : Int) != 0) = true := by rw [bne_iff_ne]; omega
        rw [decide_eq_false hl0] at hs2
        obtain ⟨rfl, rfl⟩ := Prod.mk.inj (show (([] : List Ent), (1300 : Int)) = (R, x) from hs2)
        clear hit hit2 hlj hs2 hRRj hl0
        go_wp2_with fail
        refine q1.out.mono ?_
        rintro e w' ⟨rfl, k, rfl⟩
        go_wp2_with fail
        go_ret2
        exact EGetPost.nil (hBr'.out.trans (below_drewN (Below.refl _ _) k))

end Go.Proofs.Ytapegklffglnoaa
