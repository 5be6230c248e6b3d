/- One block of SHA-256, as the program works it in: the regions joined. -/
import Derived.Test.YtpjfhbmegabafaaLMixLow
import Derived.Test.YtpjfhbmegabafaaLMixUp
import Derived.Test.YtpjfhbmegabafaaLMixWord
import Derived.Test.YtpjfhbmegabafaaLMixRest
import Derived.Test.YtpjfhbmegabafaaLMixSmall
import Derived.Deep.LoopGhost
namespace Go.Proofs.Ytpjfhbmegabafaa
open Go.RowKit

theorem dig_byte (s : Sha.S8) (rest : List UInt8) (n : Int) (hr : rest.length = 64) (i : Nat) (hi : i < 64) : (digCells s rest n)[8 + i]? = some (.int .u8 (ub (rest.getD i 0))) := by
  unfold digCells
  rw [List.getElem?_append_left (by simp [hr]; omega), List.getElem?_append_right (by simp)]
  have : i < rest.length := by omega
  simp [List.getElem?_eq_getElem this]

theorem wordCells_at (ws : List (BitVec 32)) (i : Nat) (h : i < ws.length) : (wordCells ws)[i]? = some (.int .u32 (u (ws.getD i 0))) := by
  simp [wordCells, List.getElem?_eq_getElem h]

/-- The schedule's cells, as far as k. -/
def schedCells (rest : List UInt8) (k : Nat) : List Value := wordCells (Sha.sched rest k) ++ List.replicate (64 - k) (.int .u32 0)

theorem wordCells_length (ws : List (BitVec 32)) : (wordCells ws).length = ws.length := by simp [wordCells]

theorem schedCells_get (rest : List UInt8) (k : Nat) (hk : k < 64) : (schedCells rest k)[k]? = some (.int .u32 0) := by
  unfold schedCells
  rw [List.getElem?_append_right (by rw [wordCells_length, Sha.sched_length]; exact Nat.le_refl _), wordCells_length, Sha.sched_length]
  rw [List.getElem?_replicate]
  simp
  omega

theorem schedCells_at (rest : List UInt8) (k i : Nat) (hi : i < k) : (schedCells rest k)[i]? = some (.int .u32 (u ((Sha.sched rest k).getD i 0))) := by
  unfold schedCells
  have hl : i < (Sha.sched rest k).length := by rw [Sha.sched_length]; exact hi
  rw [List.getElem?_append_left (by rw [wordCells_length]; exact hl)]
  simp [wordCells, List.getElem?_eq_getElem hl]

theorem schedCells_set (rest : List UInt8) (k : Nat) (hk : k < 64) (x : BitVec 32) (hx : Sha.sched rest (k + 1) = Sha.sched rest k ++ [x]) : (schedCells rest k).set k (.int .u32 (u x)) = schedCells rest (k + 1) := by
  have hl : (wordCells (Sha.sched rest k)).length = k := by rw [wordCells_length, Sha.sched_length]
  unfold schedCells
  rw [hx, List.set_append_right _ _ (by rw [hl]; exact Nat.le_refl _), hl, Nat.sub_self]
  have e : 64 - k = (64 - (k + 1)) + 1 := by omega
  rw [e, List.replicate_succ, List.set_cons_zero]
  simp [wordCells]

theorem schedCells_next (rest : List UInt8) (k : Nat) (hk : k < 16) : (schedCells rest k).set k (.int .u32 (u (Sha.word rest k))) = schedCells rest (k + 1) :=
  schedCells_set rest k (by omega) _ (by simp [Sha.sched, hk])

theorem schedCells_zero (rest : List UInt8) : schedCells rest 0 = z64.toList := by
  simp [schedCells, Sha.sched, wordCells, z64]

theorem rounds_zero (ws : List (BitVec 32)) (s : Sha.S8) : Sha.rounds ws 0 s = s := rfl
theorem compress_def (s : Sha.S8) (rest : List UInt8) : Sha.compress s rest = s.add (Sha.rounds (Sha.sched rest 64) 64 s) := rfl

attribute [local irreducible] Sha.sched Sha.rounds Sha.compress

/-! The function's shape. -/
noncomputable def mixLoop1 : Code := .loop (.seq (mixReg 3) (.seq (.cond (.tmp 21) .skip (.exit 0)) (.seq (.block 1 (.seq (mixReg 4) (mixReg 5))) (mixReg 6))))
noncomputable def mixLoop2 : Code := .loop (.seq (.seq (mixReg 8) (.cond (.tmp 64) .skip (.exit 2))) (.seq (.block 3 (mixReg 10)) (mixReg 9)))
noncomputable def mixEight : Code := .seq (mixReg 15) (.seq (mixReg 16) (.seq (mixReg 17) (.seq (mixReg 18) (.seq (mixReg 19) (.seq (mixReg 20) (.seq (mixReg 21) (.seq (mixReg 22) (.seq (mixReg 23) (.seq (mixReg 24) (.seq (mixReg 25)
  (.seq (mixReg 26) (.seq (mixReg 27) (.seq (mixReg 28) (.seq (mixReg 29) (.seq (mixReg 30) (mixReg 31))))))))))))))))
noncomputable def mixLoop3 : Code := .loop (.seq (.seq (mixReg 13) (.cond (.tmp 123) .skip (.exit 4))) (.seq (.block 5 mixEight) (mixReg 14)))
noncomputable def mixStores : Code := .seq (mixReg 32) (.seq (mixReg 33) (.seq (mixReg 34) (.seq (mixReg 35) (.seq (mixReg 36) (.seq (mixReg 37) (.seq (mixReg 38) (mixReg 39)))))))
noncomputable def mixTree : Code := .seq (mixReg 0) (.seq (mixReg 1) (.seq (.seq (mixReg 2) (.block 0 mixLoop1)) (.seq (.seq (mixReg 7) (.block 2 mixLoop2)) (.seq (mixReg 11) (.seq (.seq (mixReg 12) (.block 4 mixLoop3)) mixStores)))))

set_option maxRecDepth 100000 in
theorem mix_tree : Try.f98.body = some mixTree := by kernel_rfl

section
variable {g : Nat} {t : TypeId} {s : Sha.S8} {rest : List UInt8} {n : Int} {BW : Nat} {W3 : World} {Q : Exit → Act → World → Prop}

theorem mixLoop1_wp {T0 : Array Value} {l0 l4 l6 l7 l8 l9 l10 l11 l12 l13 l14 l15 l16 l17 l18 : Value} (hr : rest.length = 64) (hgW : g ≠ BW)
    (hL : mixLive T0 l0 (.pointer (some ⟨g, 8, none⟩)) l4 (.pointer (some ⟨BW, 0, none⟩)) l6 l7 l8 l9 l10 l11 l12 l13 l14 l15 l16 l17 l18 (.int .i64 0))
    (hD : Holds W3 g t (digCells s rest n)) (hV : Holds W3 BW 179 (schedCells rest 0))
    (hQ : ∀ (T : Array Value) (l6 l20 : Value) (w : World), mixLive T l0 (.pointer (some ⟨g, 8, none⟩)) l4 (.pointer (some ⟨BW, 0, none⟩)) l6 l7 l8 l9 l10 l11 l12 l13 l14 l15 l16 l17 l18 l20 →
      Holds w BW 179 (schedCells rest 16) → W3.grownBy w (some BW) → Q .normal ⟨T, []⟩ w) : Code.wp Try.prog (.block 0 mixLoop1) Q ⟨T0, []⟩ W3 := by
  refine wp_block ?_
  unfold mixLoop1
  refine wp_loop_ghost (fun n a wr => ∃ (T : Array Value) (k : Nat) (l6 : Value), a = ⟨T, []⟩ ∧ k ≤ 16 ∧ n = 16 - k ∧
    mixLive T l0 (.pointer (some ⟨g, 8, none⟩)) l4 (.pointer (some ⟨BW, 0, none⟩)) l6 l7 l8 l9 l10 l11 l12 l13 l14 l15 l16 l17 l18 (.int .i64 (k : Int)) ∧ Holds wr BW 179 (schedCells rest k) ∧ W3.grownBy wr (some BW)) 16
    ⟨T0, 0, l6, rfl, by omega, rfl, hL, hV, World.grownBy.refl _ _⟩ ?_
  rintro _ _ wr ⟨T, k, m6, rfl, hk, rfl, hL, hW, hG⟩
  refine wp_seq (mixTest1A k hL ?_)
  intro T1 hL1 ht
  change Code.wp _ _ _ _ _
  by_cases hlt : k < 16
  · refine wp_seq (wp_cond_true ?_ (wp_skip ?_))
    · refine ht.trans ?_
      rw [decide_eq_true (by omega)]
    change Code.wp _ _ _ _ _
    refine wp_seq (wp_block (wp_seq (mixTake1A k hL1 ?_)))
    intro T2 hL2
    change Code.wp _ _ _ _ _
    have hD1 := hD.grown hG (by simpa using hgW)
    have c0 := (hD1.cell (8 + 4 * k)).trans (dig_byte s rest n hr (4 * k) (by omega))
    have c1 := (hD1.cell (8 + (4 * k + 1))).trans (dig_byte s rest n hr (4 * k + 1) (by omega))
    have c2 := (hD1.cell (8 + (4 * k + 2))).trans (dig_byte s rest n hr (4 * k + 2) (by omega))
    have c3 := (hD1.cell (8 + (4 * k + 3))).trans (dig_byte s rest n hr (4 * k + 3) (by omega))
    have cw := hW.cell k
    rw [schedCells_get rest k (by omega)] at cw
    refine mixWordA _ _ _ _ g BW k hlt _ c0 c1 c2 c3 (ub_bd _) (ub_bd _) (ub_bd _) (ub_bd _) cw (hW.frozen k) hL2 ?_
    intro T3 hL3
    change Code.wp _ _ _ _ _
    refine mixNext1A k (by omega) hL3 ?_
    intro T4 hL4
    refine ⟨16 - (k + 1), by omega, T4, k + 1, _, rfl, by omega, rfl, hL4, ?_, ?_⟩
    · rw [← schedCells_next rest k hlt]
      exact (hW.set k _).drew
    · exact only_drew (only_setCell hG k _)
  · obtain rfl : k = 16 := by omega
    refine wp_seq (wp_cond_false ?_ (wp_exit ?_))
    · refine ht.trans ?_
      rw [decide_eq_false (by omega)]
    exact hQ _ _ _ _ hL1 hW hG

theorem mixLoop2_wp {T0 : Array Value} {l0 l1 l4 l6 l8 l9 l10 l11 l12 l13 l14 l15 l16 l17 l18 l20 : Value} {w0 : World}
    (hL : mixLive T0 l0 l1 l4 (.pointer (some ⟨BW, 0, none⟩)) l6 (.int .i64 16) l8 l9 l10 l11 l12 l13 l14 l15 l16 l17 l18 l20)
    (hW : Holds w0 BW 179 (schedCells rest 16)) (hG : W3.grownBy w0 (some BW))
    (hQ : ∀ (T : Array Value) (l7 : Value) (w : World), mixLive T l0 l1 l4 (.pointer (some ⟨BW, 0, none⟩)) l6 l7 l8 l9 l10 l11 l12 l13 l14 l15 l16 l17 l18 l20 →
      Holds w BW 179 (schedCells rest 64) → W3.grownBy w (some BW) → Q .normal ⟨T, []⟩ w) : Code.wp Try.prog (.block 2 mixLoop2) Q ⟨T0, []⟩ w0 := by
  refine wp_block ?_
  unfold mixLoop2
  refine wp_loop_ghost (fun n a wr => ∃ (T : Array Value) (k : Nat), a = ⟨T, []⟩ ∧ 16 ≤ k ∧ k ≤ 64 ∧ n = 64 - k ∧
    mixLive T l0 l1 l4 (.pointer (some ⟨BW, 0, none⟩)) l6 (.int .i64 (k : Int)) l8 l9 l10 l11 l12 l13 l14 l15 l16 l17 l18 l20 ∧ Holds wr BW 179 (schedCells rest k) ∧ W3.grownBy wr (some BW)) 48
    ⟨T0, 16, rfl, by omega, by omega, rfl, hL, hW, hG⟩ ?_
  rintro _ _ wr ⟨T, k, rfl, hk1, hk, rfl, hL, hW, hG⟩
  refine wp_seq (wp_seq (mixTest2A k hL ?_))
  intro T1 hL1 ht
  change Code.wp _ _ _ _ _
  by_cases hlt : k < 64
  · refine wp_cond_true ?_ (wp_skip ?_)
    · refine ht.trans ?_
      rw [decide_eq_true (by omega)]
    change Code.wp _ _ _ _ _
    have c16 := (hW.cell (k - 16)).trans (schedCells_at rest k (k - 16) (by omega))
    have c15 := (hW.cell (k - 15)).trans (schedCells_at rest k (k - 15) (by omega))
    have c7 := (hW.cell (k - 7)).trans (schedCells_at rest k (k - 7) (by omega))
    have c2 := (hW.cell (k - 2)).trans (schedCells_at rest k (k - 2) (by omega))
    have cw := hW.cell k
    rw [schedCells_get rest k hlt] at cw
    refine wp_seq (wp_block (mixSchedA _ _ _ _ BW k hk1 hlt _ c16 c15 c7 c2 cw (hW.frozen k) hL1 ?_))
    intro T3 hL3
    change Code.wp _ _ _ _ _
    refine mixNext2A k hlt hL3 ?_
    intro T4 hL4
    refine ⟨64 - (k + 1), by omega, T4, k + 1, rfl, by omega, by omega, rfl, hL4, ?_, ?_⟩
    · rw [← schedCells_set rest k hlt _ (Sha.sched_next rest k hk1)]
      exact (hW.set k _).drew
    · exact only_drew (only_setCell hG k _)
  · obtain rfl : k = 64 := by omega
    refine wp_cond_false ?_ (wp_exit ?_)
    · refine ht.trans ?_
      rw [decide_eq_false (by omega)]
    exact hQ _ _ _ hL1 hW hG
end

section
variable {g : Nat} {t : TypeId} {s : Sha.S8} {rest : List UInt8} {n : Int} {BT BW : Nat} {Q : Exit → Act → World → Prop}

theorem mixEight_wp {T0 : Array Value} {l0 l1 l6 l7 l17 l18 l20 : Value} (k : Nat) (hk : k ≤ 56) (a b c d e f g' h : BitVec 32) (ws : List (BitVec 32)) (I : World → Prop) (hI : ∀ w m, I w → I (w.drewN m)) {w : World} (hw : I w)
    (hL : mixLive T0 l0 l1 (.pointer (some ⟨BT, 0, none⟩)) (.pointer (some ⟨BW, 0, none⟩)) l6 l7 (.int .u32 (u a)) (.int .u32 (u b)) (.int .u32 (u c)) (.int .u32 (u d)) (.int .u32 (u e)) (.int .u32 (u f)) (.int .u32 (u g')) (.int .u32 (u h)) (.int .i64 (k : Int)) l17 l18 l20)
    (cK : ∀ w, I w → ∀ j, j < 8 → w.cell? ⟨BT, k + j, none⟩ = some (.int .u32 (u (Sha.ks.getD (k + j) 0))))
    (cV : ∀ w, I w → ∀ j, j < 8 → w.cell? ⟨BW, k + j, none⟩ = some (.int .u32 (u (ws.getD (k + j) 0))))
    (hR : Sha.rounds ws k s = ⟨a, b, c, d, e, f, g', h⟩)
    (hQ : ∀ (T : Array Value) (l17 l18 : Value) (w' : World), I w' → mixLive T l0 l1 (.pointer (some ⟨BT, 0, none⟩)) (.pointer (some ⟨BW, 0, none⟩)) l6 l7 (.int .u32 (u (Sha.rounds ws (k + 8) s).a)) (.int .u32 (u (Sha.rounds ws (k + 8) s).b)) (.int .u32 (u (Sha.rounds ws (k + 8) s).c)) (.int .u32 (u (Sha.rounds ws (k + 8) s).d)) (.int .u32 (u (Sha.rounds ws (k + 8) s).e)) (.int .u32 (u (Sha.rounds ws (k + 8) s).f)) (.int .u32 (u (Sha.rounds ws (k + 8) s).g)) (.int .u32 (u (Sha.rounds ws (k + 8) s).h)) (.int .i64 (k : Int)) l17 l18 l20 → Q .normal ⟨T, []⟩ w') :
    Code.wp Try.prog mixEight Q ⟨T0, []⟩ w := by
  unfold mixEight
  refine wp_seq (mixCutsA BT BW k hk hL ?_)
  intro T1 m1 hL1
  replace hw := hI _ m1 hw
  revert hw
  generalize w.drewN m1 = w1
  intro hw
  change Code.wp _ _ _ _ _
  have hK0 := cK _ hw 0 (by omega)
  have hV0 := cV _ hw 0 (by omega)
  generalize hk0 : Sha.ks.getD (k + 0) 0 = K0 at hK0
  generalize hv0 : ws.getD (k + 0) 0 = V0 at hV0
  refine wp_seq (mixLow0A e f g' h K0 V0 BT BW k hK0 hV0 hL1 ?_)
  clear hL1 T1
  intro T1 m1 hL1
  replace hw := hI _ m1 hw
  revert hw
  generalize World.drewN _ m1 = w2
  intro hw
  clear m1
  generalize hm0 : h + (Sha.sum1 e + Sha.ch e f g' + K0 + V0) = m0 at hL1
  change Code.wp _ _ _ _ _
  refine wp_seq (mixUp0A a b c d m0 hL1 ?_)
  clear hL1 T1
  intro T1 hL1
  generalize hd0 : d + m0 = d0 at hL1
  generalize hh0 : m0 + (Sha.sum0 a + Sha.maj a b c) = h0 at hL1
  change Code.wp _ _ _ _ _
  have hK1 := cK _ hw 1 (by omega)
  have hV1 := cV _ hw 1 (by omega)
  generalize hk1 : Sha.ks.getD (k + 1) 0 = K1 at hK1
  generalize hv1 : ws.getD (k + 1) 0 = V1 at hV1
  refine wp_seq (mixLow1A d0 e f g' K1 V1 BT BW k hK1 hV1 hL1 ?_)
  clear hL1 T1
  intro T1 m1 hL1
  replace hw := hI _ m1 hw
  revert hw
  generalize World.drewN _ m1 = w3
  intro hw
  clear m1
  generalize hm1 : g' + (Sha.sum1 d0 + Sha.ch d0 e f + K1 + V1) = m1 at hL1
  change Code.wp _ _ _ _ _
  refine wp_seq (mixUp1A h0 a b c m1 hL1 ?_)
  clear hL1 T1
  intro T1 hL1
  generalize hd1 : c + m1 = d1 at hL1
  generalize hh1 : m1 + (Sha.sum0 h0 + Sha.maj h0 a b) = h1 at hL1
  change Code.wp _ _ _ _ _
  have hK2 := cK _ hw 2 (by omega)
  have hV2 := cV _ hw 2 (by omega)
  generalize hk2 : Sha.ks.getD (k + 2) 0 = K2 at hK2
  generalize hv2 : ws.getD (k + 2) 0 = V2 at hV2
  refine wp_seq (mixLow2A d1 d0 e f K2 V2 BT BW k hK2 hV2 hL1 ?_)
  clear hL1 T1
  intro T1 m1 hL1
  replace hw := hI _ m1 hw
  revert hw
  generalize World.drewN _ m1 = w4
  intro hw
  clear m1
  generalize hm2 : f + (Sha.sum1 d1 + Sha.ch d1 d0 e + K2 + V2) = m2 at hL1
  change Code.wp _ _ _ _ _
  refine wp_seq (mixUp2A h1 h0 a b m2 hL1 ?_)
  clear hL1 T1
  intro T1 hL1
  generalize hd2 : b + m2 = d2 at hL1
  generalize hh2 : m2 + (Sha.sum0 h1 + Sha.maj h1 h0 a) = h2 at hL1
  change Code.wp _ _ _ _ _
  have hK3 := cK _ hw 3 (by omega)
  have hV3 := cV _ hw 3 (by omega)
  generalize hk3 : Sha.ks.getD (k + 3) 0 = K3 at hK3
  generalize hv3 : ws.getD (k + 3) 0 = V3 at hV3
  refine wp_seq (mixLow3A d2 d1 d0 e K3 V3 BT BW k hK3 hV3 hL1 ?_)
  clear hL1 T1
  intro T1 m1 hL1
  replace hw := hI _ m1 hw
  revert hw
  generalize World.drewN _ m1 = w5
  intro hw
  clear m1
  generalize hm3 : e + (Sha.sum1 d2 + Sha.ch d2 d1 d0 + K3 + V3) = m3 at hL1
  change Code.wp _ _ _ _ _
  refine wp_seq (mixUp3A h2 h1 h0 a m3 hL1 ?_)
  clear hL1 T1
  intro T1 hL1
  generalize hd3 : a + m3 = d3 at hL1
  generalize hh3 : m3 + (Sha.sum0 h2 + Sha.maj h2 h1 h0) = h3 at hL1
  change Code.wp _ _ _ _ _
  have hK4 := cK _ hw 4 (by omega)
  have hV4 := cV _ hw 4 (by omega)
  generalize hk4 : Sha.ks.getD (k + 4) 0 = K4 at hK4
  generalize hv4 : ws.getD (k + 4) 0 = V4 at hV4
  refine wp_seq (mixLow4A d3 d2 d1 d0 K4 V4 BT BW k hK4 hV4 hL1 ?_)
  clear hL1 T1
  intro T1 m1 hL1
  replace hw := hI _ m1 hw
  revert hw
  generalize World.drewN _ m1 = w6
  intro hw
  clear m1
  generalize hm4 : d0 + (Sha.sum1 d3 + Sha.ch d3 d2 d1 + K4 + V4) = m4 at hL1
  change Code.wp _ _ _ _ _
  refine wp_seq (mixUp4A h3 h2 h1 h0 m4 hL1 ?_)
  clear hL1 T1
  intro T1 hL1
  generalize hd4 : h0 + m4 = d4 at hL1
  generalize hh4 : m4 + (Sha.sum0 h3 + Sha.maj h3 h2 h1) = h4 at hL1
  change Code.wp _ _ _ _ _
  have hK5 := cK _ hw 5 (by omega)
  have hV5 := cV _ hw 5 (by omega)
  generalize hk5 : Sha.ks.getD (k + 5) 0 = K5 at hK5
  generalize hv5 : ws.getD (k + 5) 0 = V5 at hV5
  refine wp_seq (mixLow5A d4 d3 d2 d1 K5 V5 BT BW k hK5 hV5 hL1 ?_)
  clear hL1 T1
  intro T1 m1 hL1
  replace hw := hI _ m1 hw
  revert hw
  generalize World.drewN _ m1 = w7
  intro hw
  clear m1
  generalize hm5 : d1 + (Sha.sum1 d4 + Sha.ch d4 d3 d2 + K5 + V5) = m5 at hL1
  change Code.wp _ _ _ _ _
  refine wp_seq (mixUp5A h4 h3 h2 h1 m5 hL1 ?_)
  clear hL1 T1
  intro T1 hL1
  generalize hd5 : h1 + m5 = d5 at hL1
  generalize hh5 : m5 + (Sha.sum0 h4 + Sha.maj h4 h3 h2) = h5 at hL1
  change Code.wp _ _ _ _ _
  have hK6 := cK _ hw 6 (by omega)
  have hV6 := cV _ hw 6 (by omega)
  generalize hk6 : Sha.ks.getD (k + 6) 0 = K6 at hK6
  generalize hv6 : ws.getD (k + 6) 0 = V6 at hV6
  refine wp_seq (mixLow6A d5 d4 d3 d2 K6 V6 BT BW k hK6 hV6 hL1 ?_)
  clear hL1 T1
  intro T1 m1 hL1
  replace hw := hI _ m1 hw
  revert hw
  generalize World.drewN _ m1 = w8
  intro hw
  clear m1
  generalize hm6 : d2 + (Sha.sum1 d5 + Sha.ch d5 d4 d3 + K6 + V6) = m6 at hL1
  change Code.wp _ _ _ _ _
  refine wp_seq (mixUp6A h5 h4 h3 h2 m6 hL1 ?_)
  clear hL1 T1
  intro T1 hL1
  generalize hd6 : h2 + m6 = d6 at hL1
  generalize hh6 : m6 + (Sha.sum0 h5 + Sha.maj h5 h4 h3) = h6 at hL1
  change Code.wp _ _ _ _ _
  have hK7 := cK _ hw 7 (by omega)
  have hV7 := cV _ hw 7 (by omega)
  generalize hk7 : Sha.ks.getD (k + 7) 0 = K7 at hK7
  generalize hv7 : ws.getD (k + 7) 0 = V7 at hV7
  refine wp_seq (mixLow7A d6 d5 d4 d3 K7 V7 BT BW k hK7 hV7 hL1 ?_)
  clear hL1 T1
  intro T1 m1 hL1
  replace hw := hI _ m1 hw
  revert hw
  generalize World.drewN _ m1 = w9
  intro hw
  clear m1
  generalize hm7 : d3 + (Sha.sum1 d6 + Sha.ch d6 d5 d4 + K7 + V7) = m7 at hL1
  change Code.wp _ _ _ _ _
  refine mixUp7A h6 h5 h4 h3 m7 hL1 ?_
  clear hL1 T1
  intro T1 hL1
  generalize hd7 : h3 + m7 = d7 at hL1
  generalize hh7 : m7 + (Sha.sum0 h6 + Sha.maj h6 h5 h4) = h7 at hL1
  have r8 : Sha.rounds ws (k + 8) s = ⟨h7, h6, h5, h4, d7, d6, d5, d4⟩ := by
    have r0 : Sha.rounds ws (k + 0) s = _ := hR
    have r1 : Sha.rounds ws (k + 1) s = ⟨h0, a, b, c, d0, e, f, g'⟩ := by
      have q := Sha.rounds_next ws (k + 0) s
      rw [r0, hk0, hv0] at q
      exact q.trans (Sha.round_is hm0 hd0 hh0)
    have r2 : Sha.rounds ws (k + 2) s = ⟨h1, h0, a, b, d1, d0, e, f⟩ := by
      have q := Sha.rounds_next ws (k + 1) s
      rw [r1, hk1, hv1] at q
      exact q.trans (Sha.round_is hm1 hd1 hh1)
    have r3 : Sha.rounds ws (k + 3) s = ⟨h2, h1, h0, a, d2, d1, d0, e⟩ := by
      have q := Sha.rounds_next ws (k + 2) s
      rw [r2, hk2, hv2] at q
      exact q.trans (Sha.round_is hm2 hd2 hh2)
    have r4 : Sha.rounds ws (k + 4) s = ⟨h3, h2, h1, h0, d3, d2, d1, d0⟩ := by
      have q := Sha.rounds_next ws (k + 3) s
      rw [r3, hk3, hv3] at q
      exact q.trans (Sha.round_is hm3 hd3 hh3)
    have r5 : Sha.rounds ws (k + 5) s = ⟨h4, h3, h2, h1, d4, d3, d2, d1⟩ := by
      have q := Sha.rounds_next ws (k + 4) s
      rw [r4, hk4, hv4] at q
      exact q.trans (Sha.round_is hm4 hd4 hh4)
    have r6 : Sha.rounds ws (k + 6) s = ⟨h5, h4, h3, h2, d5, d4, d3, d2⟩ := by
      have q := Sha.rounds_next ws (k + 5) s
      rw [r5, hk5, hv5] at q
      exact q.trans (Sha.round_is hm5 hd5 hh5)
    have r7 : Sha.rounds ws (k + 7) s = ⟨h6, h5, h4, h3, d6, d5, d4, d3⟩ := by
      have q := Sha.rounds_next ws (k + 6) s
      rw [r6, hk6, hv6] at q
      exact q.trans (Sha.round_is hm6 hd6 hh6)
    have q := Sha.rounds_next ws (k + 7) s
    rw [r7, hk7, hv7] at q
    exact q.trans (Sha.round_is hm7 hd7 hh7)
  refine hQ T1 (.pointer (some ⟨BT, k, none⟩)) (.pointer (some ⟨BW, k, none⟩)) _ hw ?_
  rw [r8]
  exact hL1

theorem mixLoop3_wp {T : Array Value} {l0 l1 l6 l7 l17 l18 l20 : Value} {w0 : World} (ws : List (BitVec 32)) (I : World → Prop) (hI : ∀ w m, I w → I (w.drewN m)) (hw : I w0)
    (hL : mixLive T l0 l1 (.pointer (some ⟨BT, 0, none⟩)) (.pointer (some ⟨BW, 0, none⟩)) l6 l7 (.int .u32 (u (s).a)) (.int .u32 (u (s).b)) (.int .u32 (u (s).c)) (.int .u32 (u (s).d)) (.int .u32 (u (s).e)) (.int .u32 (u (s).f)) (.int .u32 (u (s).g)) (.int .u32 (u (s).h)) (.int .i64 0) l17 l18 l20)
    (cK : ∀ w, I w → ∀ j, j < 64 → w.cell? ⟨BT, j, none⟩ = some (.int .u32 (u (Sha.ks.getD j 0))))
    (cV : ∀ w, I w → ∀ j, j < 64 → w.cell? ⟨BW, j, none⟩ = some (.int .u32 (u (ws.getD j 0))))
    (hQ : ∀ (T : Array Value) (l16 l17 l18 : Value) (w' : World), I w' → mixLive T l0 l1 (.pointer (some ⟨BT, 0, none⟩)) (.pointer (some ⟨BW, 0, none⟩)) l6 l7 (.int .u32 (u (Sha.rounds ws 64 s).a)) (.int .u32 (u (Sha.rounds ws 64 s).b)) (.int .u32 (u (Sha.rounds ws 64 s).c)) (.int .u32 (u (Sha.rounds ws 64 s).d)) (.int .u32 (u (Sha.rounds ws 64 s).e)) (.int .u32 (u (Sha.rounds ws 64 s).f)) (.int .u32 (u (Sha.rounds ws 64 s).g)) (.int .u32 (u (Sha.rounds ws 64 s).h)) l16 l17 l18 l20 → Q .normal ⟨T, []⟩ w') :
    Code.wp Try.prog (.block 4 mixLoop3) Q ⟨T, []⟩ w0 := by
  refine wp_block ?_
  unfold mixLoop3
  refine wp_loop_ghost (fun n a wr => ∃ (T : Array Value) (k : Nat) (l17 l18 : Value), a = ⟨T, []⟩ ∧ k ≤ 64 ∧ k % 8 = 0 ∧ n = 64 - k ∧ mixLive T l0 l1 (.pointer (some ⟨BT, 0, none⟩)) (.pointer (some ⟨BW, 0, none⟩)) l6 l7 (.int .u32 (u (Sha.rounds ws k s).a)) (.int .u32 (u (Sha.rounds ws k s).b)) (.int .u32 (u (Sha.rounds ws k s).c)) (.int .u32 (u (Sha.rounds ws k s).d)) (.int .u32 (u (Sha.rounds ws k s).e)) (.int .u32 (u (Sha.rounds ws k s).f)) (.int .u32 (u (Sha.rounds ws k s).g)) (.int .u32 (u (Sha.rounds ws k s).h)) (.int .i64 (k : Int)) l17 l18 l20 ∧ I wr) 64
    ⟨T, 0, _, _, rfl, by omega, rfl, rfl, by rw [rounds_zero]; exact hL, hw⟩ ?_
  rintro _ _ wr ⟨T, k, m17, m18, rfl, hk, hk8, rfl, hL, hw⟩
  refine wp_seq (wp_seq (mixTest3A k hL ?_))
  intro T1 hL1 ht
  change Code.wp _ _ _ _ _
  by_cases hlt : k < 64
  · refine wp_cond_true ?_ (wp_skip ?_)
    · refine ht.trans ?_
      rw [decide_eq_true (by omega)]
    change Code.wp _ _ _ _ _
    refine wp_seq (wp_block (mixEight_wp (s := s) k (by omega) _ _ _ _ _ _ _ _ ws I hI hw hL1 (fun w h j hj => cK w h _ (by omega)) (fun w h j hj => cV w h _ (by omega)) rfl ?_))
    intro T2 n17 n18 w2 hw2 hL2
    change Code.wp _ _ _ _ _
    refine mixNext3A k hlt hL2 ?_
    intro T3 hL3
    exact ⟨64 - (k + 8), by omega, T3, k + 8, _, _, rfl, by omega, by omega, rfl, hL3, hw2⟩
  · obtain rfl : k = 64 := by omega
    refine wp_cond_false ?_ (wp_exit ?_)
    · refine ht.trans ?_
      rw [decide_eq_false (by omega)]
    exact hQ _ _ _ _ _ hw hL1

theorem mixStores_wp {T : Array Value} {l1 l4 l5 l6 l7 l16 l17 l18 l20 : Value} {w : World} (r : Sha.S8)
    (hL : mixLive T (.pointer (some ⟨g, 0, none⟩)) l1 l4 l5 l6 l7 (.int .u32 (u r.a)) (.int .u32 (u r.b)) (.int .u32 (u r.c)) (.int .u32 (u r.d)) (.int .u32 (u r.e)) (.int .u32 (u r.f)) (.int .u32 (u r.g)) (.int .u32 (u r.h)) l16 l17 l18 l20) (hD : Holds w g t (digCells s rest n))
    (hQ : ∀ (T : Array Value) (w' : World), Holds w' g t (digCells (s.add r) rest n) → w.grownBy w' (some g) → Q .normal ⟨T, []⟩ w') : Code.wp Try.prog mixStores Q ⟨T, []⟩ w := by
  unfold mixStores
  have hG : w.grownBy w (some g) := World.grownBy.refl _ _
  revert hG hD
  generalize hww : w = w0
  intro hD hG
  rw [hww] at hQ
  clear hww
  refine wp_seq (mixStore0A s.a r.a g (hD.cell 0) (hD.frozen 0) hL ?_)
  clear hL T
  intro T hL
  replace hG := only_drew (only_setCell hG 0 (.int .u32 (u (s.a + r.a))))
  replace hD : Holds _ g t (digCells ⟨s.a + r.a, s.b, s.c, s.d, s.e, s.f, s.g, s.h⟩ rest n) := (hD.set 0 (.int .u32 (u (s.a + r.a)))).drew
  revert hG hD
  generalize World.drew _ = w1
  intro hG hD
  change Code.wp _ _ _ _ _
  refine wp_seq (mixStore1A s.b r.b g (hD.cell 1) (hD.frozen 1) hL ?_)
  clear hL T
  intro T hL
  replace hG := only_drew (only_setCell hG 1 (.int .u32 (u (s.b + r.b))))
  replace hD : Holds _ g t (digCells ⟨s.a + r.a, s.b + r.b, s.c, s.d, s.e, s.f, s.g, s.h⟩ rest n) := (hD.set 1 (.int .u32 (u (s.b + r.b)))).drew
  revert hG hD
  generalize World.drew _ = w2
  intro hG hD
  change Code.wp _ _ _ _ _
  refine wp_seq (mixStore2A s.c r.c g (hD.cell 2) (hD.frozen 2) hL ?_)
  clear hL T
  intro T hL
  replace hG := only_drew (only_setCell hG 2 (.int .u32 (u (s.c + r.c))))
  replace hD : Holds _ g t (digCells ⟨s.a + r.a, s.b + r.b, s.c + r.c, s.d, s.e, s.f, s.g, s.h⟩ rest n) := (hD.set 2 (.int .u32 (u (s.c + r.c)))).drew
  revert hG hD
  generalize World.drew _ = w3
  intro hG hD
  change Code.wp _ _ _ _ _
  refine wp_seq (mixStore3A s.d r.d g (hD.cell 3) (hD.frozen 3) hL ?_)
  clear hL T
  intro T hL
  replace hG := only_drew (only_setCell hG 3 (.int .u32 (u (s.d + r.d))))
  replace hD : Holds _ g t (digCells ⟨s.a + r.a, s.b + r.b, s.c + r.c, s.d + r.d, s.e, s.f, s.g, s.h⟩ rest n) := (hD.set 3 (.int .u32 (u (s.d + r.d)))).drew
  revert hG hD
  generalize World.drew _ = w4
  intro hG hD
  change Code.wp _ _ _ _ _
  refine wp_seq (mixStore4A s.e r.e g (hD.cell 4) (hD.frozen 4) hL ?_)
  clear hL T
  intro T hL
  replace hG := only_drew (only_setCell hG 4 (.int .u32 (u (s.e + r.e))))
  replace hD : Holds _ g t (digCells ⟨s.a + r.a, s.b + r.b, s.c + r.c, s.d + r.d, s.e + r.e, s.f, s.g, s.h⟩ rest n) := (hD.set 4 (.int .u32 (u (s.e + r.e)))).drew
  revert hG hD
  generalize World.drew _ = w5
  intro hG hD
  change Code.wp _ _ _ _ _
  refine wp_seq (mixStore5A s.f r.f g (hD.cell 5) (hD.frozen 5) hL ?_)
  clear hL T
  intro T hL
  replace hG := only_drew (only_setCell hG 5 (.int .u32 (u (s.f + r.f))))
  replace hD : Holds _ g t (digCells ⟨s.a + r.a, s.b + r.b, s.c + r.c, s.d + r.d, s.e + r.e, s.f + r.f, s.g, s.h⟩ rest n) := (hD.set 5 (.int .u32 (u (s.f + r.f)))).drew
  revert hG hD
  generalize World.drew _ = w6
  intro hG hD
  change Code.wp _ _ _ _ _
  refine wp_seq (mixStore6A s.g r.g g (hD.cell 6) (hD.frozen 6) hL ?_)
  clear hL T
  intro T hL
  replace hG := only_drew (only_setCell hG 6 (.int .u32 (u (s.g + r.g))))
  replace hD : Holds _ g t (digCells ⟨s.a + r.a, s.b + r.b, s.c + r.c, s.d + r.d, s.e + r.e, s.f + r.f, s.g + r.g, s.h⟩ rest n) := (hD.set 6 (.int .u32 (u (s.g + r.g)))).drew
  revert hG hD
  generalize World.drew _ = w7
  intro hG hD
  change Code.wp _ _ _ _ _
  refine mixStore7A s.h r.h g (hD.cell 7) (hD.frozen 7) hL ?_
  clear hL T
  intro T hL
  replace hG := only_drew (only_setCell hG 7 (.int .u32 (u (s.h + r.h))))
  replace hD : Holds _ g t (digCells ⟨s.a + r.a, s.b + r.b, s.c + r.c, s.d + r.d, s.e + r.e, s.f + r.f, s.g + r.g, s.h + r.h⟩ rest n) := (hD.set 7 (.int .u32 (u (s.h + r.h)))).drew
  exact hQ _ _ hD hG
end

set_option maxRecDepth 100000 in
theorem mix_any (g : Nat) (t : TypeId) (s : Sha.S8) (rest : List UInt8) (n : Int) (hr : rest.length = 64) (w : World) (hd : Holds w g t (digCells s rest n)) :
    Calls Try.prog 98 #[.pointer (some ⟨g, 0, none⟩), .pointer (some ⟨g, 8, none⟩)] w fun e w' => e = .returned (.tuple #[]) ∧ Holds w' g t (digCells (Sha.compress s rest) rest n) ∧ w.grownBy w' (some g) := by
  refine calls_of_wp Try.func98 mix_tree ?_
  rw [Try.ntmps98]
  have hL : mixLive (#[.pointer (some ⟨g, 0, none⟩), .pointer (some ⟨g, 8, none⟩)] ++ Array.replicate (396 - (#[.pointer (some ⟨g, 0, none⟩), .pointer (some ⟨g, 8, none⟩)] : Array Value).size) undef) (.pointer (some ⟨g, 0, none⟩)) (.pointer (some ⟨g, 8, none⟩)) undef undef undef undef undef undef undef undef undef undef undef undef undef undef undef undef := by
    constructor <;> kernel_rfl
  revert hL
  generalize (#[.pointer (some ⟨g, 0, none⟩), .pointer (some ⟨g, 8, none⟩)] ++ Array.replicate (396 - (#[.pointer (some ⟨g, 0, none⟩), .pointer (some ⟨g, 8, none⟩)] : Array Value).size) undef) = T
  intro hL
  unfold mixTree
  refine wp_seq (mixTableA hL ?_)
  intro T1 BT w1 hBT hT1 hb1 hL1
  change Code.wp _ _ _ _ _
  refine wp_seq (mixZeroA hL1 ?_)
  intro T2 hL2
  change Code.wp _ _ _ _ _
  have hsz1 := hb1.size
  have hD1 : Holds w1 g t (digCells s rest n) := hd.below hb1 hd.lt
  have hgT : g ≠ BT := Nat.ne_of_lt (Nat.lt_of_lt_of_le hd.lt hBT)
  have hgW : g ≠ w1.heap.size := Nat.ne_of_lt hD1.lt
  have hTW : BT ≠ w1.heap.size := Nat.ne_of_lt hT1.lt
  have hT2 := hT1.alloc (.cells z64 179)
  have hD2 := hD1.alloc (.cells z64 179)
  have hV2 : Holds (w1.alloc (.cells z64 179)) w1.heap.size 179 (schedCells rest 0) := by
    rw [schedCells_zero]
    exact Holds.new w1 179 z64
  have hb2 := hb1.alloc hsz1 (.cells z64 179)
  revert hL2 hT2 hD2 hV2 hb2
  generalize w1.alloc (.cells z64 179) = w2
  intro hL2 hT2 hD2 hV2 hb2
  have hsz2 := hb2.size
  revert hL2 hV2 hgW hTW hsz1
  generalize w1.heap.size = BW
  intro hsz1 hgW hTW hL2 hV2
  refine wp_seq (wp_seq (mixBegin1A hL2 ?_))
  intro T3 hL3
  change Code.wp _ _ _ _ _
  refine mixLoop1_wp hr hgW hL3 hD2 hV2 ?_
  intro T4 l6 l20 w4 hL4 hW4 hG4
  change Code.wp _ _ _ _ _
  refine wp_seq (wp_seq (mixBegin2A hL4 ?_))
  intro T5 hL5
  change Code.wp _ _ _ _ _
  refine mixLoop2_wp hL5 hW4 hG4 ?_
  intro T6 l7 w6 hL6 hW6 hG6
  change Code.wp _ _ _ _ _
  have hD6 := hD2.grown hG6 (by simpa using hgW)
  have hT6 := hT2.grown hG6 (by simpa using hTW)
  refine wp_seq (mixLoadsA s g (hD6.cell 0) (hD6.cell 1) (hD6.cell 2) (hD6.cell 3) (hD6.cell 4) (hD6.cell 5) (hD6.cell 6) (hD6.cell 7) hL6 ?_)
  intro T7 m7 hL7
  change Code.wp _ _ _ _ _
  refine wp_seq (wp_seq (mixBegin3A hL7 ?_))
  intro T8 hL8
  change Code.wp _ _ _ _ _
  refine mixLoop3_wp (s := s) (Sha.sched rest 64) (fun w' => Holds w' g t (digCells s rest n) ∧ Holds w' BT 179 (wordCells Sha.ks) ∧ Holds w' BW 179 (schedCells rest 64) ∧ w2.grownBy w' (some BW))
    (fun w m h => ⟨h.1.drewN m, h.2.1.drewN m, h.2.2.1.drewN m, only_drewN h.2.2.2 m⟩) ⟨hD6.drewN m7, hT6.drewN m7, hW6.drewN m7, only_drewN hG6 m7⟩ hL8
    (fun w h j hj => (h.2.1.cell j).trans (wordCells_at Sha.ks j hj)) (fun w h j hj => (h.2.2.1.cell j).trans (schedCells_at rest 64 j hj)) ?_
  rintro T9 l16 l17 l18 w9 ⟨hD9, _, _, hG9⟩ hL9
  change Code.wp _ _ _ _ _
  refine mixStores_wp _ hL9 hD9 ?_
  intro T10 w10 hD10 hG10
  refine bodyPost_end (results_none rfl _ _ _) rfl ⟨rfl, ?_, ?_⟩
  · rw [compress_def]
    exact hD10
  · have hb := below_of_only hb2 hG9 hsz1 hsz2
    exact only_trans (only_of_below hb _) hG10

end Go.Proofs.Ytpjfhbmegabafaa
