/- The reference's block256: the regions joined. -/
import Derived.Test.YtpjfhbmegabafaaLBlkSmall
import Derived.Test.YtpjfhbmegabafaaLBlkSig
import Derived.Test.YtpjfhbmegabafaaLBlkWord
import Derived.Test.YtpjfhbmegabafaaLBlkMem
namespace Go.Proofs.Ytpjfhbmegabafaa
open Go.RowKit
attribute [local irreducible] Sha.sched Sha.rounds Sha.compress

/-- A byte of a text of 64. -/
theorem str64_run (S : ByteArray) (hS : S.size = 64) (i : Nat) (hi : i < 64) (j : Int) (hj : j = i) (w : World) :
    (Instr.index 9 (.string S) (.int .i64 j)).run Try.prog w = .ok (.int .u8 (ub (S.data.toList.getD i 0))) w := by
  subst hj
  rw [run_index_string w 9 S .i64 i Try.underlying9, dif_pos ⟨by omega, by omega⟩]
  have h1 : i < S.data.size := by
    have : S.data.size = 64 := hS
    omega
  have e : S[((i : Int)).toNat]'(by rw [hS]; omega) = S.data.toList.getD i 0 := by
    simp only [ByteArray.getElem_eq_getElem_data, List.getD, Int.toNat_natCast]
    rw [Array.getElem?_toList, Array.getElem?_eq_getElem h1]
    rfl
  rw [e, ub_nat]

/-! The function's shape. -/
noncomputable def blkLoop1 : Code := .loop (.seq (.seq (blkReg 4) (.cond (.tmp 20) .skip (.exit 0))) (.seq (.block 1 (blkReg 6)) (blkReg 5)))
noncomputable def blkLoop2 : Code := .loop (.seq (.seq (blkReg 8) (.cond (.tmp 55) .skip (.exit 2))) (.seq (.block 3 (.seq (blkReg 10) (.seq (blkReg 11) (blkReg 12)))) (blkReg 9)))
noncomputable def blkRound : Code := .seq (blkReg 17) (.seq (blkReg 18) (.seq (blkReg 19) (.seq (blkReg 20) (blkReg 21))))
noncomputable def blkLoop3 : Code := .loop (.seq (.seq (blkReg 15) (.cond (.tmp 109) .skip (.exit 4))) (.seq (.block 5 blkRound) (blkReg 16)))
noncomputable def blkLoop4 : Code := .loop (.seq (.seq (blkReg 23) (.cond (.tmp 199) .skip (.exit 6))) (.seq (.block 7 (blkReg 25)) (blkReg 24)))
noncomputable def blkTree : Code := .seq (blkReg 0) (.seq (blkReg 1) (.seq (blkReg 2) (.seq (.seq (blkReg 3) (.block 0 blkLoop1)) (.seq (.seq (blkReg 7) (.block 2 blkLoop2)) (.seq (blkReg 13) (.seq (.seq (blkReg 14) (.block 4 blkLoop3)) (.seq (.seq (blkReg 22) (.block 6 blkLoop4)) (.seq (blkReg 26) .ret))))))))

set_option maxRecDepth 100000 in
theorem blk_tree : Try.f86.body = some blkTree := by kernel_rfl

section
variable {s : Sha.S8} {S : ByteArray} {B2 BV BT BW : Nat} {Q : Exit → Act → World → Prop} {l0 l1 l2 l4 l5 l6 l7 l8 l9 l10 l11 l12 l13 l14 l15 l16 l17 : Value} {T0 : Array Value} {w0 : World}

theorem blkLoop1_wp (hS : S.size = 64) (I : World → Prop) (hI : ∀ w i v, I w → I (w.setCell ⟨BW, i, none⟩ v).drew) (h0 : I w0)
    (hL : blkLive T0 l0 (.string S) l2 l4 l5 (.pointer (some ⟨BW, 0, none⟩)) (.int .i64 0) l8 l9 l10 l11 l12 l13 l14 l15 l16 l17) (hW : Holds w0 BW 179 (schedCells S.data.toList 0))
    (hQ : ∀ (T : Array Value) (l7 : Value) (w : World), blkLive T l0 (.string S) l2 l4 l5 (.pointer (some ⟨BW, 0, none⟩)) l7 l8 l9 l10 l11 l12 l13 l14 l15 l16 l17 →
      Holds w BW 179 (schedCells S.data.toList 16) → I w → Q .normal ⟨T, []⟩ w) : Code.wp Try.prog (.block 0 blkLoop1) Q ⟨T0, []⟩ w0 := by
  refine wp_block ?_
  unfold blkLoop1
  refine wp_loop_ghost (fun n a wr => ∃ (T : Array Value) (k : Nat), a = ⟨T, []⟩ ∧ k ≤ 16 ∧ n = 16 - k ∧
    blkLive T l0 (.string S) l2 l4 l5 (.pointer (some ⟨BW, 0, none⟩)) (.int .i64 (k : Int)) l8 l9 l10 l11 l12 l13 l14 l15 l16 l17 ∧ Holds wr BW 179 (schedCells S.data.toList k) ∧ I wr) 16
    ⟨T0, 0, rfl, by omega, rfl, hL, hW, h0⟩ ?_
  rintro _ _ wr ⟨T, k, rfl, hk, rfl, hL, hW, hG⟩
  refine wp_seq (wp_seq (blkTest1A k hL ?_))
  intro T1 hL1 ht
  change Code.wp _ _ _ _ _
  by_cases hlt : k < 16
  · refine wp_cond_true ?_ (wp_skip ?_)
    · refine ht.trans ?_
      rw [decide_eq_true (by omega)]
    change Code.wp _ _ _ _ _
    have cw := hW.cell k
    rw [schedCells_get S.data.toList k (by omega)] at cw
    refine wp_seq (wp_block (blkWordA _ _ _ _ S BW k hlt _ (str64_run S hS (4 * k) (by omega) _ (by omega)) (str64_run S hS (4 * k + 1) (by omega) _ (by omega)) (str64_run S hS (4 * k + 2) (by omega) _ (by omega)) (str64_run S hS (4 * k + 3) (by omega) _ (by omega))
      (ub_bd _) (ub_bd _) (ub_bd _) (ub_bd _) cw (hW.frozen k) hL1 ?_))
    intro T3 hL3
    change Code.wp _ _ _ _ _
    refine blkNext1A k (by omega) hL3 ?_
    intro T4 hL4
    refine ⟨16 - (k + 1), by omega, T4, k + 1, rfl, by omega, rfl, hL4, ?_, hI _ _ _ hG⟩
    rw [← schedCells_next S.data.toList k hlt]
    exact (hW.set k _).drew
  · obtain rfl : k = 16 := by omega
    refine wp_cond_false ?_ (wp_exit ?_)
    · refine ht.trans ?_
      rw [decide_eq_false (by omega)]
    exact hQ _ _ _ hL1 hW hG

theorem blkLoop2_wp (I : World → Prop) (hI : ∀ w i v, I w → I (w.setCell ⟨BW, i, none⟩ v).drew) (hD : ∀ w m, I w → I (w.drewN m)) (h0 : I w0) (rest : List UInt8)
    (hL : blkLive T0 l0 l1 l2 l4 l5 (.pointer (some ⟨BW, 0, none⟩)) l7 (.int .i64 16) l9 l10 l11 l12 l13 l14 l15 l16 l17) (hW : Holds w0 BW 179 (schedCells rest 16))
    (hQ : ∀ (T : Array Value) (l8 l9 l10 : Value) (w : World), blkLive T l0 l1 l2 l4 l5 (.pointer (some ⟨BW, 0, none⟩)) l7 l8 l9 l10 l11 l12 l13 l14 l15 l16 l17 →
      Holds w BW 179 (schedCells rest 64) → I w → Q .normal ⟨T, []⟩ w) : Code.wp Try.prog (.block 2 blkLoop2) Q ⟨T0, []⟩ w0 := by
  refine wp_block ?_
  unfold blkLoop2
  refine wp_loop_ghost (fun n a wr => ∃ (T : Array Value) (k : Nat) (l9 l10 : Value), a = ⟨T, []⟩ ∧ 16 ≤ k ∧ k ≤ 64 ∧ n = 64 - k ∧
    blkLive T l0 l1 l2 l4 l5 (.pointer (some ⟨BW, 0, none⟩)) l7 (.int .i64 (k : Int)) l9 l10 l11 l12 l13 l14 l15 l16 l17 ∧ Holds wr BW 179 (schedCells rest k) ∧ I wr) 48
    ⟨T0, 16, _, _, rfl, by omega, by omega, rfl, hL, hW, h0⟩ ?_
  rintro _ _ wr ⟨T, k, m9, m10, rfl, hk1, hk, rfl, hL, hW, hG⟩
  refine wp_seq (wp_seq (blkTest2A k hL ?_))
  intro T1 hL1 ht
  change Code.wp _ _ _ _ _
  by_cases hlt : k < 64
  · refine wp_cond_true ?_ (wp_skip ?_)
    · refine ht.trans ?_
      rw [decide_eq_true (by omega)]
    change Code.wp _ _ _ _ _
    have c15 := (hW.cell (k - 15)).trans (schedCells_at rest k (k - 15) (by omega))
    refine wp_seq (wp_block (wp_seq (blkSig0A _ BW k hk1 hlt c15 hL1 ?_)))
    intro T2 m2 hL2
    replace hW := hW.drewN m2
    replace hG := hD _ m2 hG
    revert hW hG
    generalize wr.drewN m2 = w2
    intro hW hG
    change Code.wp _ _ _ _ _
    have c2 := (hW.cell (k - 2)).trans (schedCells_at rest k (k - 2) (by omega))
    refine wp_seq (blkSig1A _ BW k hk1 hlt c2 hL2 ?_)
    intro T3 m3 hL3
    replace hW := hW.drewN m3
    replace hG := hD _ m3 hG
    revert hW hG
    generalize w2.drewN m3 = w3
    intro hW hG
    change Code.wp _ _ _ _ _
    have c16 := (hW.cell (k - 16)).trans (schedCells_at rest k (k - 16) (by omega))
    have c7 := (hW.cell (k - 7)).trans (schedCells_at rest k (k - 7) (by omega))
    have cw := hW.cell k
    rw [schedCells_get rest k hlt] at cw
    refine blkSchedA _ _ _ _ BW k hk1 hlt _ c16 c7 cw (hW.frozen k) hL3 ?_
    intro T4 hL4
    change Code.wp _ _ _ _ _
    refine blkNext2A k hlt hL4 ?_
    intro T5 hL5
    refine ⟨64 - (k + 1), by omega, T5, k + 1, _, _, rfl, by omega, by omega, rfl, hL5, ?_, hI _ _ _ hG⟩
    rw [← schedCells_set rest k hlt _ (Sha.sched_next rest k hk1)]
    exact (hW.set k _).drew
  · obtain rfl : k = 64 := by omega
    refine wp_cond_false ?_ (wp_exit ?_)
    · refine ht.trans ?_
      rw [decide_eq_false (by omega)]
    exact hQ _ _ _ _ _ hL1 hW hG

theorem s8_set (v s' : Sha.S8) {w : World} (hV : Holds w BV 162 (wordCells v.list)) : Holds (w.setCells BV 0 (wordCells s'.list)) BV 162 (wordCells s'.list) := by
  have h := hV.put 0 (wordCells s'.list) (by simp [wordCells, Sha.S8.list])
  rw [put_all _ _ (by simp [wordCells, Sha.S8.list])] at h
  exact h

theorem blkLoop3_wp (I : World → Prop) (hI : ∀ w vs, I w → I (w.setCells BV 0 vs)) (hD : ∀ w m, I w → I (w.drewN m)) (h0 : I w0) (ws : List (BitVec 32))
    (hL : blkLive T0 l0 l1 l2 l4 (.pointer (some ⟨BT, 0, none⟩)) (.pointer (some ⟨BW, 0, none⟩)) l7 l8 l9 l10 (.pointer (some ⟨BV, 0, none⟩)) (.int .i64 0) l13 l14 l15 l16 l17) (hV : Holds w0 BV 162 (wordCells s.list))
    (cK : ∀ w, I w → ∀ j, j < 64 → w.cell? ⟨BT, j, none⟩ = some (.int .u32 (u (Sha.ks.getD j 0))))
    (cV : ∀ w, I w → ∀ j, j < 64 → w.cell? ⟨BW, j, none⟩ = some (.int .u32 (u (ws.getD j 0))))
    (hQ : ∀ (T : Array Value) (l12 l13 l14 l15 l16 : Value) (w : World), blkLive T l0 l1 l2 l4 (.pointer (some ⟨BT, 0, none⟩)) (.pointer (some ⟨BW, 0, none⟩)) l7 l8 l9 l10 (.pointer (some ⟨BV, 0, none⟩)) l12 l13 l14 l15 l16 l17 →
      Holds w BV 162 (wordCells (Sha.rounds ws 64 s).list) → I w → Q .normal ⟨T, []⟩ w) : Code.wp Try.prog (.block 4 blkLoop3) Q ⟨T0, []⟩ w0 := by
  refine wp_block ?_
  unfold blkLoop3
  refine wp_loop_ghost (fun n a wr => ∃ (T : Array Value) (k : Nat) (l13 l14 l15 l16 : Value), a = ⟨T, []⟩ ∧ k ≤ 64 ∧ n = 64 - k ∧
    blkLive T l0 l1 l2 l4 (.pointer (some ⟨BT, 0, none⟩)) (.pointer (some ⟨BW, 0, none⟩)) l7 l8 l9 l10 (.pointer (some ⟨BV, 0, none⟩)) (.int .i64 (k : Int)) l13 l14 l15 l16 l17 ∧ Holds wr BV 162 (wordCells (Sha.rounds ws k s).list) ∧ I wr) 64
    ⟨T0, 0, _, _, _, _, rfl, by omega, rfl, hL, by rw [rounds_zero]; exact hV, h0⟩ ?_
  rintro _ _ wr ⟨T, k, m13, m14, m15, m16, rfl, hk, rfl, hL, hV, hG⟩
  refine wp_seq (wp_seq (blkTest3A k hL ?_))
  intro T1 hL1 ht
  change Code.wp _ _ _ _ _
  by_cases hlt : k < 64
  · refine wp_cond_true ?_ (wp_skip ?_)
    · refine ht.trans ?_
      rw [decide_eq_true (by omega)]
    change Code.wp _ _ _ _ _
    obtain ⟨v, hv⟩ : ∃ v, Sha.rounds ws k s = v := ⟨_, rfl⟩
    rw [hv] at hV
    unfold blkRound
    refine wp_seq (wp_block (wp_seq (blkSum1A v.e BV (hV.cell 4) hL1 ?_)))
    intro T2 m2 hL2
    replace hV := hV.drewN m2
    replace hG := hD _ m2 hG
    revert hV hG
    generalize wr.drewN m2 = w2
    intro hV hG
    change Code.wp _ _ _ _ _
    refine wp_seq (blkTA (Sha.sum1 v.e) v.e v.f v.g v.h (Sha.ks.getD k 0) (ws.getD k 0) BV BT BW k hlt (hV.cell 4) (hV.cell 5) (hV.cell 6) (hV.cell 7) (cK _ hG k hlt) (cV _ hG k hlt) hL2 ?_)
    intro T3 m3 hL3
    replace hV := hV.drewN m3
    replace hG := hD _ m3 hG
    revert hV hG
    generalize w2.drewN m3 = w3
    intro hV hG
    change Code.wp _ _ _ _ _
    refine wp_seq (blkSum0A v.a BV (hV.cell 0) hL3 ?_)
    intro T4 m4 hL4
    replace hV := hV.drewN m4
    replace hG := hD _ m4 hG
    revert hV hG
    generalize w3.drewN m4 = w4
    intro hV hG
    change Code.wp _ _ _ _ _
    refine wp_seq (blkUA v.a v.b v.c (Sha.sum0 v.a) BV (hV.cell 0) (hV.cell 1) (hV.cell 2) hL4 ?_)
    intro T5 hL5
    change Code.wp _ _ _ _ _
    refine blkTurnA v _ _ BV hV hL5 ?_
    intro T6 hL6
    change Code.wp _ _ _ _ _
    refine blkNext3A k hlt hL6 ?_
    intro T7 hL7
    refine ⟨64 - (k + 1), by omega, T7, k + 1, _, _, _, _, rfl, by omega, rfl, hL7, ?_, hI _ _ hG⟩
    rw [Sha.rounds_next, hv]
    exact s8_set v _ hV
  · obtain rfl : k = 64 := by omega
    refine wp_cond_false ?_ (wp_exit ?_)
    · refine ht.trans ?_
      rw [decide_eq_false (by omega)]
    exact hQ _ _ _ _ _ _ _ hL1 hV hG

/-- The first k words are sums. -/
def addCells (s r : Sha.S8) (k : Nat) : List Value := (wordCells (s.add r).list).take k ++ (wordCells s.list).drop k

theorem eight {k : Nat} (h : k < 8) : k = 0 ∨ k = 1 ∨ k = 2 ∨ k = 3 ∨ k = 4 ∨ k = 5 ∨ k = 6 ∨ k = 7 := by omega

theorem addCells_get (s r : Sha.S8) (k : Nat) (h : k < 8) : (addCells s r k)[k]? = some (.int .u32 (u (s.list.getD k 0))) := by
  rcases eight h with rfl | rfl | rfl | rfl | rfl | rfl | rfl | rfl <;> rfl

theorem addCells_set (s r : Sha.S8) (k : Nat) (h : k < 8) : (addCells s r k).set k (.int .u32 (u (s.list.getD k 0 + r.list.getD k 0))) = addCells s r (k + 1) := by
  rcases eight h with rfl | rfl | rfl | rfl | rfl | rfl | rfl | rfl <;> rfl

theorem s8_get (r : Sha.S8) (k : Nat) (h : k < 8) : (wordCells r.list)[k]? = some (.int .u32 (u (r.list.getD k 0))) := by
  rcases eight h with rfl | rfl | rfl | rfl | rfl | rfl | rfl | rfl <;> rfl

theorem blkLoop4_wp (r : Sha.S8) (I : World → Prop) (hI : ∀ w i v, I w → I (w.setCell ⟨B2, i, none⟩ v).drew) (h0 : I w0) (hR : ∀ w, I w → Holds w BV 162 (wordCells r.list))
    (hL : blkLive T0 l0 l1 (.pointer (some ⟨B2, 0, none⟩)) l4 l5 l6 l7 l8 l9 l10 (.pointer (some ⟨BV, 0, none⟩)) l12 l13 l14 l15 l16 (.int .i64 0)) (hV : Holds w0 B2 162 (wordCells s.list))
    (hQ : ∀ (T : Array Value) (l17 : Value) (w : World), blkLive T l0 l1 (.pointer (some ⟨B2, 0, none⟩)) l4 l5 l6 l7 l8 l9 l10 (.pointer (some ⟨BV, 0, none⟩)) l12 l13 l14 l15 l16 l17 →
      Holds w B2 162 (wordCells (s.add r).list) → I w → Q .normal ⟨T, []⟩ w) : Code.wp Try.prog (.block 6 blkLoop4) Q ⟨T0, []⟩ w0 := by
  refine wp_block ?_
  unfold blkLoop4
  refine wp_loop_ghost (fun n a wr => ∃ (T : Array Value) (k : Nat), a = ⟨T, []⟩ ∧ k ≤ 8 ∧ n = 8 - k ∧
    blkLive T l0 l1 (.pointer (some ⟨B2, 0, none⟩)) l4 l5 l6 l7 l8 l9 l10 (.pointer (some ⟨BV, 0, none⟩)) l12 l13 l14 l15 l16 (.int .i64 (k : Int)) ∧ Holds wr B2 162 (addCells s r k) ∧ I wr) 8
    ⟨T0, 0, rfl, by omega, rfl, hL, hV, h0⟩ ?_
  rintro _ _ wr ⟨T, k, rfl, hk, rfl, hL, hV, hG⟩
  refine wp_seq (wp_seq (blkTest4A k hL ?_))
  intro T1 hL1 ht
  change Code.wp _ _ _ _ _
  by_cases hlt : k < 8
  · refine wp_cond_true ?_ (wp_skip ?_)
    · refine ht.trans ?_
      rw [decide_eq_true (by omega)]
    change Code.wp _ _ _ _ _
    have c := (hV.cell k).trans (addCells_get s r k hlt)
    have d := ((hR _ hG).cell k).trans (s8_get r k hlt)
    refine wp_seq (wp_block (blkAddA _ _ B2 BV k hlt c d (hV.frozen k) hL1 ?_))
    intro T3 hL3
    change Code.wp _ _ _ _ _
    refine blkNext4A k (by omega) hL3 ?_
    intro T4 hL4
    refine ⟨8 - (k + 1), by omega, T4, k + 1, rfl, by omega, rfl, hL4, ?_, hI _ _ _ hG⟩
    rw [← addCells_set s r k hlt]
    exact (hV.set k _).drew
  · obtain rfl : k = 8 := by omega
    refine wp_cond_false ?_ (wp_exit ?_)
    · refine ht.trans ?_
      rw [decide_eq_false (by omega)]
    exact hQ _ _ _ hL1 hV hG
end

set_option maxRecDepth 100000 in
theorem block256_any (s : Sha.S8) (S : ByteArray) (hS : S.size = 64) (w : World) :
    Calls Try.prog 86 #[s8Agg s, .string S] w fun e w' => e = .returned (s8Agg (Sha.compress s S.data.toList)) ∧ Below w.heap.size w w' := by
  refine calls_of_wp Try.func86 blk_tree ?_
  rw [Try.ntmps86]
  have hL : blkLive (#[s8Agg s, .string S] ++ Array.replicate (212 - (#[s8Agg s, .string S] : Array Value).size) undef) (s8Agg s) (.string S) undef undef undef undef undef undef undef undef undef undef undef undef undef undef undef := by
    constructor <;> kernel_rfl
  revert hL
  generalize (#[s8Agg s, .string S] ++ Array.replicate (212 - (#[s8Agg s, .string S] : Array Value).size) undef) = T
  intro hL
  unfold blkTree
  refine wp_seq (blkFirstA s hL ?_)
  intro T1 hL1
  change Code.wp _ _ _ _ _
  have h2 := (Holds.new w 162 (wordCells s.list).toArray).alloc (.cells (Array.replicate 8 (Value.int .u32 0)) 162)
  have h4 := Holds.new (w.alloc (.cells (wordCells s.list).toArray 162)) 162 (Array.replicate 8 (Value.int .u32 0))
  have hb1 : Below w.heap.size w ((w.alloc (.cells (wordCells s.list).toArray 162)).alloc (.cells (Array.replicate 8 (Value.int .u32 0)) 162)) := ((Below.refl _ _).alloc (Nat.le_refl _) _).alloc (by simp) _
  have e4 : (w.alloc (.cells (wordCells s.list).toArray 162)).heap.size = w.heap.size + 1 := by simp
  rw [e4] at h4
  have hz1 : w.heap.size + 2 ≤ ((w.alloc (.cells (wordCells s.list).toArray 162)).alloc (.cells (Array.replicate 8 (Value.int .u32 0)) 162)).heap.size := by simp
  revert h2 h4 hb1 hz1
  generalize (w.alloc (.cells (wordCells s.list).toArray 162)).alloc (.cells (Array.replicate 8 (Value.int .u32 0)) 162) = w1
  intro h2 h4 hb1 hz1
  refine wp_seq (blkTableA hL1 ?_)
  intro T2 BT w2 hBT hT2 hb2 hL2
  change Code.wp _ _ _ _ _
  refine wp_seq (blkZeroA hL2 ?_)
  intro T3 hL3
  change Code.wp _ _ _ _ _
  have hsz2 := hb2.size
  have hBT2 := hT2.lt
  have hW3 : Holds (w2.alloc (.cells z64 179)) w2.heap.size 179 (schedCells S.data.toList 0) := by
    rw [schedCells_zero]
    exact Holds.new w2 179 z64
  have hT3 := hT2.alloc (.cells z64 179)
  have h23 := (h2.below hb2 (by omega)).alloc (.cells z64 179)
  have h43 := (h4.below hb2 (by omega)).alloc (.cells z64 179)
  have hb3 : Below w.heap.size w (w2.alloc (.cells z64 179)) := (hb1.trans (hb2.mono (by omega))).alloc (by omega) _
  have hz3 : w2.heap.size + 1 ≤ (w2.alloc (.cells z64 179)).heap.size := by simp
  revert hL3 hW3 hT3 h23 h43 hb3 hz3 hsz2 hBT2
  generalize w2.alloc (.cells z64 179) = w3
  generalize w2.heap.size = BW
  intro hL3 hsz2 hBT2 hW3 hT3 h23 h43 hb3 hz3
  refine wp_seq (wp_seq (blkBegin1A hL3 ?_))
  intro T4 hL4
  change Code.wp _ _ _ _ _
  refine blkLoop1_wp hS (fun w' => Holds w' (w.heap.size) 162 (wordCells s.list) ∧ Holds w' (w.heap.size + 1) 162 (Array.replicate 8 (Value.int .u32 0)).toList ∧ Holds w' BT 179 (wordCells Sha.ks) ∧ Below w.heap.size w w' ∧ BW + 1 ≤ w'.heap.size)
    (fun w' i v h => ⟨(h.1.far _ (by simp; omega) _).drew, (h.2.1.far _ (by simp; omega) _).drew, (h.2.2.1.far _ (by simp; omega) _).drew, (h.2.2.2.1.setCell (by simp; omega) _).drew, by simpa [World.setCell] using h.2.2.2.2⟩)
    ⟨h23, h43, hT3, hb3, hz3⟩ hL4 hW3 ?_
  intro T5 l7 w5 hL5 hW5 hI5
  change Code.wp _ _ _ _ _
  refine wp_seq (wp_seq (blkBegin2A hL5 ?_))
  intro T6 hL6
  change Code.wp _ _ _ _ _
  refine blkLoop2_wp (fun w' => Holds w' (w.heap.size) 162 (wordCells s.list) ∧ Holds w' (w.heap.size + 1) 162 (Array.replicate 8 (Value.int .u32 0)).toList ∧ Holds w' BT 179 (wordCells Sha.ks) ∧ Below w.heap.size w w' ∧ BW + 1 ≤ w'.heap.size)
    (fun w' i v h => ⟨(h.1.far _ (by simp; omega) _).drew, (h.2.1.far _ (by simp; omega) _).drew, (h.2.2.1.far _ (by simp; omega) _).drew, (h.2.2.2.1.setCell (by simp; omega) _).drew, by simpa [World.setCell] using h.2.2.2.2⟩)
    (fun w' m h => ⟨h.1.drewN m, h.2.1.drewN m, h.2.2.1.drewN m, ⟨h.2.2.2.1.os, h.2.2.2.1.tape, h.2.2.2.1.output, h.2.2.2.1.size, h.2.2.2.1.block⟩, h.2.2.2.2⟩) hI5 S.data.toList hL6 hW5 ?_
  rintro T7 l8 l9 l10 w7 hL7 hW7 ⟨h27, h47, hT7, hb7, hz7⟩
  change Code.wp _ _ _ _ _
  refine wp_seq (blkCopyA s _ h27 hL7 ?_)
  intro T8 BV w8 hBV hV8 hb8 hL8
  change Code.wp _ _ _ _ _
  have hsz8 := hb8.size
  have hBV8 := hV8.lt
  have h28 := h27.below hb8 (by omega)
  have h48 := h47.below hb8 (by omega)
  have hT8 := hT7.below hb8 (by omega)
  have hW8 := hW7.below hb8 (by omega)
  have hbb8 : Below w.heap.size w w8 := hb7.trans (hb8.mono (by omega))
  refine wp_seq (wp_seq (blkBegin3A hL8 ?_))
  intro T9 hL9
  change Code.wp _ _ _ _ _
  refine blkLoop3_wp (s := s) (fun w' => Holds w' (w.heap.size) 162 (wordCells s.list) ∧ Holds w' (w.heap.size + 1) 162 (Array.replicate 8 (Value.int .u32 0)).toList ∧ Holds w' BT 179 (wordCells Sha.ks) ∧ Holds w' BW 179 (schedCells S.data.toList 64) ∧ Below w.heap.size w w')
    (fun w' vs h => ⟨h.1.fars _ _ _ (by omega), h.2.1.fars _ _ _ (by omega), h.2.2.1.fars _ _ _ (by omega), h.2.2.2.1.fars _ _ _ (by omega), below_setCells h.2.2.2.2 _ _ _ (by omega)⟩)
    (fun w' m h => ⟨h.1.drewN m, h.2.1.drewN m, h.2.2.1.drewN m, h.2.2.2.1.drewN m, ⟨h.2.2.2.2.os, h.2.2.2.2.tape, h.2.2.2.2.output, h.2.2.2.2.size, h.2.2.2.2.block⟩⟩) ⟨h28, h48, hT8, hW8, hbb8⟩ (Sha.sched S.data.toList 64) hL9 hV8
    (fun w' h j hj => (h.2.2.1.cell j).trans (wordCells_at Sha.ks j hj)) (fun w' h j hj => (h.2.2.2.1.cell j).trans (schedCells_at S.data.toList 64 j hj)) ?_
  rintro T10 l12 l13 l14 l15 l16 w10 hL10 hV10 ⟨h210, h410, _, _, hb10⟩
  change Code.wp _ _ _ _ _
  refine wp_seq (wp_seq (blkBegin4A hL10 ?_))
  intro T11 hL11
  change Code.wp _ _ _ _ _
  refine blkLoop4_wp (s := s) (Sha.rounds (Sha.sched S.data.toList 64) 64 s) (fun w' => Holds w' BV 162 (wordCells (Sha.rounds (Sha.sched S.data.toList 64) 64 s).list) ∧ Holds w' (w.heap.size + 1) 162 (Array.replicate 8 (Value.int .u32 0)).toList ∧ Below w.heap.size w w')
    (fun w' i v h => ⟨(h.1.far _ (by simp; omega) _).drew, (h.2.1.far _ (by simp) _).drew, (h.2.2.setCell (by simp) _).drew⟩) ⟨hV10, h410, hb10⟩ (fun w' h => h.1) hL11 h210 ?_
  rintro T12 l17 w12 hL12 h212 ⟨_, h412, hb12⟩
  change Code.wp _ _ _ _ _
  refine wp_seq (blkLastA _ _ _ h212 (h412.there 0 8 (by simp)) hL12 ?_)
  intro T13 hL13
  change Code.wp _ _ _ _ _
  refine wp_ret ?_
  have h0 := h412.put 0 (wordCells (s.add (Sha.rounds (Sha.sched S.data.toList 64) 64 s)).list) (by simp [wordCells, Sha.S8.list])
  rw [put_all _ _ (by simp [wordCells, Sha.S8.list])] at h0
  refine bodyPost_ret (v := s8Agg (s.add (Sha.rounds (Sha.sched S.data.toList 64) 64 s))) ?_ rfl ⟨by rw [compress_def], below_setCells hb12 _ _ _ (by omega)⟩
  exact results_cell_row rfl _ _ (w.heap.size + 1) 162 (wordCells (s.add (Sha.rounds (Sha.sched S.data.toList 64) 64 s)).list).toArray (0, 0) _ hL13.s4 h0 Try.underlying162 rfl Try.sizeW8

end Go.Proofs.Ytpjfhbmegabafaa
