/- The reference's Sha: what it does behind the padding. Made by tools/mkref.py. -/
import Derived.Test.YtenfhmpjhbpkpaaRefOut
import Derived.StillTailTactics
namespace Go.Proofs.Ytenfhmpjhbpkpaa
open Go.RowKit
attribute [local irreducible] Sha.compress Sha.blocks Sha.sha Sha.pad

/-- What stands of the reference's Sha while it works. -/
structure RefQ (w wr : World) (b : Nat) (s : Sha.S8) : Prop where
  h : Holds wr b 66 (wordCells s.list)
  o : Holds wr w.heap.size 28 z32.toList
  bl : Below w.heap.size w wr

theorem RefQ.step {w wr w2 w3 : World} {s s' : Sha.S8} (hq : RefQ w wr (w.heap.size + 1) s) (hd : w2 = wr.drew) (hb : Below w2.heap.size w2 w3) : RefQ w (w3.setCells (w.heap.size + 1) 0 (wordCells s'.list)) (w.heap.size + 1) s' := by
  subst hd
  have h1 := hq.h.drew.below hb hq.h.lt
  have h2 := hq.o.drew.below hb hq.o.lt
  have h3 := hq.bl.drew.trans (hb.mono hq.bl.size)
  exact ⟨s8_set s s' h1, h2.fars _ _ _ (by omega), below_setCells h3 _ _ _ (by omega)⟩

theorem RefQ.below {w wr w2 : World} {s : Sha.S8} (hq : RefQ w wr (w.heap.size + 1) s) (hb : Below wr.heap.size wr w2) : RefQ w w2 (w.heap.size + 1) s :=
  ⟨hq.h.below hb hq.h.lt, hq.o.below hb hq.o.lt, hq.bl.trans (hb.mono hq.bl.size)⟩

theorem RefQ.far {w wr : World} {s : Sha.S8} (hq : RefQ w wr (w.heap.size + 1) s) (p : Addr) (h1 : w.heap.size + 1 ≠ p.block) (h2 : w.heap.size ≠ p.block) (v : Value) (h3 : w.heap.size ≤ p.block) : RefQ w (wr.setCell p v) (w.heap.size + 1) s :=
  ⟨hq.h.far p h1 v, hq.o.far p h2 v, hq.bl.setCell h3 v⟩

/-- Blocks of a text worked in on a state. -/
def blkN (s : Sha.S8) (R : ByteArray) : Nat → Sha.S8
  | 0 => s
  | j + 1 => Sha.compress (blkN s R j) (R.extract (64 * j) (64 * j + 64)).data.toList

theorem blkN_next (s : Sha.S8) (R : ByteArray) (j : Nat) : blkN s R (j + 1) = Sha.compress (blkN s R j) (R.extract (64 * j) (64 * j + 64)).data.toList := rfl
theorem blkN_zero (s : Sha.S8) (R : ByteArray) : blkN s R 0 = s := rfl

theorem blkN_pad (x : ByteArray) (j : Nat) : blkN (Sha.blocks x.data.toList (x.size / 64)) (padAll x) j = Sha.blocks (Sha.pad x.data.toList) (x.size / 64 + j) := by
  induction j with
  | zero => rw [blkN_zero, pad_first]; rfl
  | succ j ih => rw [blkN_next, ih, pad_block]

attribute [local irreducible] blkN
noncomputable def refTail : Code := dropSeq 6 ((Try.f23.body).getD .skip)

/-- A word's byte, as the two loops (of this function and of the law's 'words') make it: the facts of the walk. -/
theorem outC_step (s : Sha.S8) (a b : Nat) (ha : a < 8) (hb : b < 4) : (outC s.bytes (4 * a + b)).set (4 * a + b) (.int .u8 (u (s.list.getD a 0) / 2 ^ (24 - 8 * b) % 256)) = outC s.bytes (4 * a + b + 1) := by
  rw [s8_byte s a b ha hb]
  exact outC_set _ (s8_bytes_length s) _ (by omega)

theorem Try.sizeHash : (Try.prog.info? 28).map (·.size) = some 32 := by kernel_rfl

set_option maxRecDepth 100000 in
set_option maxHeartbeats 2000000 in
theorem ref_tail {q1_ q4_ q5_ q7_ q8_ q9_ q10_ q11_ q12_ q13_ q14_ q15_ q16_ q17_ q18_ q19_ q20_ q21_ q22_ q23_ q24_ q25_ q26_ q27_ q28_ q29_ q30_ q31_ q32_ q33_ q34_ q35_ q36_ q37_ q38_ q39_ q40_ q41_ q42_ q43_ q44_ q45_ q46_ q47_ q48_ q49_ q50_ q51_ q52_ q53_ q54_ q55_ q56_ q57_ q58_ q59_ q60_ q61_ q62_ q63_ q64_ q65_ q66_ q67_ q68_ q69_ q70_ q71_ q72_ q73_ q74_ : Value} (x R : ByteArray) (s0 : Sha.S8) (p : Nat) (hp : R.size = 64 * p) (hp2 : p ≤ 100000) {w W : World} (hq0 : RefQ w W (w.heap.size + 1) s0) {Rr : Ending → World → Prop}
    (hQ : ∀ w', Below w.heap.size w w' → Rr (.returned (.agg (byteCells (blkN s0 R p).bytes).toArray)) w') :
    Code.wp Try.prog refTail (bodyPost Try.prog Try.f23 Rr) ⟨#[
    .string x, q1_, .pointer (some ⟨w.heap.size, 0, none⟩), .pointer (some ⟨w.heap.size + 1, 0, none⟩), q4_, q5_, .string R, q7_, q8_, q9_, q10_, q11_, q12_, q13_, q14_, q15_, q16_, 
    q17_, q18_, q19_, q20_, q21_, q22_, q23_, q24_, q25_, q26_, q27_, q28_, q29_, q30_, q31_, q32_, q33_, q34_, q35_, q36_, q37_, q38_, q39_, q40_, q41_, q42_, q43_, q44_, q45_, q46_, 
    q47_, q48_, q49_, q50_, q51_, q52_, q53_, q54_, q55_, q56_, q57_, q58_, q59_, q60_, q61_, q62_, q63_, q64_, q65_, q66_, q67_, q68_, q69_, q70_, q71_, q72_, q73_, q74_], []⟩ W := by
  conv => arg 2; whnf
  have hq0' := hid hq0
  have hQ' := hid hQ
  have hx' := hid hp2
  clear hq0 hQ
  go_wp2_with fail
  go_loopw [7] (fun i wr => ∃ k : Nat, k ≤ p ∧ i = .int .i64 (64 * (k : Int)) ∧ RefQ w wr (w.heap.size + 1) (blkN s0 R k)) (fun i _ => (64 * p - (intOf i).toNat))
  case atStart => exact ⟨0, Nat.zero_le _, rfl, by rw [blkN_zero]; exact hq0'.out⟩
  case round =>
    obtain ⟨k, hk, rfl, hq⟩ := hrel
    by_cases hlt : k < p
    · have q0 : (64 : Int) * k < 64 * (p : Int) := by omega
      have p2' : 64 * (k : Int) + 64 ≤ 64 * (p : Int) := by omega
      have s1 := IntWalk.i64_in (64 * (k : Int) + 64) (by have := hx'.out; omega)
      have p0 : (0 : Int) ≤ 64 * (k : Int) := by omega
      have p1 : 64 * (k : Int) ≤ 64 * (k : Int) + 64 := by omega
      have p2 : 64 * (k : Int) + 64 ≤ R.size := by omega
      have p3 : (0 : Int) ≤ 64 * (k : Int) + 64 := by omega
      have n0 : (64 * (k : Int)).toNat = 64 * k := by omega
      have n1 : (64 * (k : Int) + 64).toNat = 64 * k + 64 := by omega
      have hsz := hid (extract_size R (64 * k) 64 (by omega))
      have hnx := hid (blkN_next s0 R k)
      generalize blkN s0 R k = st at *
      have hcall := fun w => block256_any st (R.extract (64 * k) (64 * k + 64)) hsz.out w
      generalize Sha.compress st (R.extract (64 * k) (64 * k + 64)).data.toList = st' at *
      have hcall' := hid hcall
      clear hcall
      have c0 : wr.cell? ⟨w.heap.size + 1, 0, none⟩ = some (.int .u32 (u st.a)) := hq.h.cell 0
      have c1 : wr.cell? ⟨w.heap.size + 1, 1, none⟩ = some (.int .u32 (u st.b)) := hq.h.cell 1
      have c2 : wr.cell? ⟨w.heap.size + 1, 2, none⟩ = some (.int .u32 (u st.c)) := hq.h.cell 2
      have c3 : wr.cell? ⟨w.heap.size + 1, 3, none⟩ = some (.int .u32 (u st.d)) := hq.h.cell 3
      have c4 : wr.cell? ⟨w.heap.size + 1, 4, none⟩ = some (.int .u32 (u st.e)) := hq.h.cell 4
      have c5 : wr.cell? ⟨w.heap.size + 1, 5, none⟩ = some (.int .u32 (u st.f)) := hq.h.cell 5
      have c6 : wr.cell? ⟨w.heap.size + 1, 6, none⟩ = some (.int .u32 (u st.g)) := hq.h.cell 6
      have c7 : wr.cell? ⟨w.heap.size + 1, 7, none⟩ = some (.int .u32 (u st.h)) := hq.h.cell 7
      have hq' := hid hq
      clear hq
      go_wp2_with fail
      refine wp_region_still_tail 6 (by kernel_rfl) (by kernel_rfl) ?_
      simp only [List.take_succ_cons, List.take_zero, List.drop_succ_cons, List.drop_zero]
      repeat still_step
      refine wpStill_nil ?_
      change wpList _ _ _ _ _ wr.drew
      go_wp2_with fail
      refine (hcall'.out _).mono ?_
      rintro e w3 ⟨rfl, hb3⟩
      have hth := (hq'.out.h.drew.below hb3 hq'.out.h.lt).there 0 8 (by simp [wordCells, Sha.S8.list])
      rename_i hK1
      refine hK1 _ _ ?_
      refine wpList_store_mid rfl 66 (.tmp 3) (.tmp 57) rfl (w.heap.size + 1) 0 (wordCells st'.list).toArray rfl rfl (by exact hth) (by exact Try.sizeW8) (by exact all_oneCell_toArray (wordCells_one _)) ?_
      have hq3 := hid (hq'.out.step (s' := st') rfl hb3)
      go_wp2
      go_roundw
      case rel => exact ⟨k + 1, by omega, by go_num, by rw [hnx.out]; exact hq3.out⟩
      case measure => simp [intOf]; omega
    · obtain rfl : k = p := by omega
      obtain ⟨st, hst⟩ : ∃ st, blkN s0 R k = st := ⟨_, rfl⟩
      rw [hst] at hq hQ'
      have hH8 := Holds.new wr 28 z32
      have hq8 := hid (hq.below ((Below.refl _ _).alloc (Nat.le_refl _) (.cells z32 28)))
      have hne := hq.h.lt
      have hne2 := hq.o.lt
      obtain ⟨W8, hW8⟩ : ∃ W8, wr.alloc (.cells z32 28) = W8 := ⟨_, rfl⟩
      obtain ⟨B8, hB8⟩ : ∃ B8, wr.heap.size = B8 := ⟨_, rfl⟩
      rw [hW8] at hH8 hq8
      rw [hB8] at hH8 hne hne2
      have hH8' := hid hH8
      have hW8' := hid hW8
      have hB8' := hid hB8
      clear hst hH8 hW8 hB8 hq hk hlt
      go_wp2_with ((with_reducible refine at_slot (some 8) ?_); refine wpList_run rfl (.pointer (some ⟨wr.heap.size, 0, none⟩)) (wr.alloc (.cells z32 28)) (by kernel_rfl) ?_; rw [hW8'.out, hB8'.out])
      go_loopw [9] (fun i wr => ∃ k : Nat, k ≤ 32 ∧ i = .int .i64 (k : Int) ∧ RefQ w wr (w.heap.size + 1) st ∧ Holds wr B8 28 (outC st.bytes k)) (fun i _ => 32 - (intOf i).toNat)
      case atStart => exact ⟨0, by omega, rfl, hq8.out, by rw [outC_zero]; exact hH8'.out⟩
      case round =>
        obtain ⟨k, hk, rfl, hq, hO⟩ := hrel
        by_cases hlt : k < 32
        · obtain ⟨a, b, ha, hb, rfl⟩ : ∃ a b, a < 8 ∧ b < 4 ∧ k = 4 * a + b := ⟨k / 4, k % 4, by omega, by omega, by omega⟩
          have c0 : ∀ v, v = wr.cell? ⟨w.heap.size + 1, a, none⟩ → v = some (.int .u32 (u (st.list.getD a 0))) := fun v hv => hv.trans ((hq.h.cell a).trans (s8_get st a ha))
          replace c0 := c0 _ rfl
          have cO := (hO.cell (4 * a + b)).trans (outC_get _ (s8_bytes_length st) _ hlt)
          have fO := hO.frozen (4 * a + b)
          have hstep := hid (outC_step st a b ha hb)
          have hq' := hid hq
          have hO' := hid hO
          generalize hkk : 4 * a + b = k at *
          have hkk' := hid hkk
          have d0 : (k : Int) / 4 = (a : Int) := by omega
          have d1 : (k : Int).tmod 4 = (b : Int) := by rw [Int.tmod_eq_emod_of_nonneg (by omega)]; omega
          have d2 := IntWalk.i64_in (8 * (b : Int)) (by omega)
          have d3 := IntWalk.i64_in (24 - 8 * (b : Int)) (by omega)
          have d4 : (24 - 8 * (b : Int)).toNat = 24 - 8 * b := by omega
          have d5 : 0 ≤ 24 - 8 * (b : Int) := by omega
          have d6 : (a : Int) < 8 := by omega
          have d7 : (k : Int) < 32 := by omega
          clear hq hO hkk
          generalize st.list.getD a 0 = V at *
          go_wp2
          refine ⟨⟨k + 1, by omega, by go_num, hq'.out.far _ (by show _ ≠ B8; omega) (by show _ ≠ B8; omega) _ (by show _ ≤ B8; omega), ?_⟩, by simp [intOf]; omega⟩
          rw [← hstep.out]
          exact hO'.out.set _ _
        · obtain rfl : k = 32 := by omega
          rw [outC_all _ (s8_bytes_length st)] at hO
          have hcl : (byteCells st.bytes).length = 32 := by rw [byteCells_length, s8_bytes_length]
          have hr : wr.rangeAt B8 0 (byteCells st.bytes) := hO.range 0 _ (fun j _ => by rw [Nat.zero_add])
          have hth : wr.there w.heap.size 0 (byteCells st.bytes).toArray.size := hq.o.there 0 _ (by simp [hcl, z32])
          have hrs := hq.o.put 0 (byteCells st.bytes) (by rw [hcl]; decide)
          rw [put_all _ _ (by rw [hcl]; decide)] at hrs
          have hb := below_setCells hq.bl w.heap.size 0 (byteCells st.bytes) (Nat.le_refl _)
          have h1c := all_oneCell_toArray (byteCells_one st.bytes)
          generalize byteCells st.bytes = cs at *
          have hq' := hid hq
          have hO' := hid hO
          have hrs' := hid hrs
          have hb' := hid hb
          have hr' := hid hr
          have hth' := hid hth
          have h1c' := hid h1c
          clear hq hO hrs hb hr hth h1c
          go_wp2_with (first
            | ((with_reducible refine at_slot (some 74) ?_); refine wpList_load_mid rfl 28 (.tmp 8) rfl B8 0 rfl cs _ (by exact hr'.out) Try.underlying28 rfl (by rw [Try.sizeHash, hcl]) ?_)
            | ((with_reducible refine at_slot none ?_); refine wpList_store_mid rfl 28 (.tmp 2) (.tmp 74) rfl w.heap.size 0 cs.toArray rfl rfl (by exact hth'.out) (by rw [Try.sizeHash, List.size_toArray, hcl]) (by exact h1c'.out) ?_))
          refine bodyPost_ret (v := .agg cs.toArray) (results_cell_row rfl _ _ w.heap.size 28 cs.toArray (0, 0) _ rfl hrs'.out Try.underlying28 rfl (by rw [Try.sizeHash, List.size_toArray, hcl])) rfl (hQ'.out _ hb'.out)

end Go.Proofs.Ytenfhmpjhbpkpaa
