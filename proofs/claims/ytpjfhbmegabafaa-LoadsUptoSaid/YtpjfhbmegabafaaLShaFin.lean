/- Digest.finish.
   Digest.finish, whole.
   sha.New, Digest.Len, Digest.Sum, sha.Sum. -/
import Derived.Test.YtpjfhbmegabafaaLShaDig
import Derived.Test.YtpjfhbmegabafaaLBlkBase
import Derived.Deep.WholeRow
import Derived.Laws.Tables
import Derived.Lib.SliceRun
namespace Go.Proofs.Ytpjfhbmegabafaa
open Go.RowKit

attribute [local irreducible] Sha.compress Sha.blocks

/-- What of a body stands behind its first n parts. -/
def dropSeq : Nat → Code → Code
  | 0, c => c
  | n + 1, .seq _ c => dropSeq n c
  | _, c => c

def z32 : Array Value := Array.replicate 32 (.int .u8 0)

theorem Try.infoHash : (Try.prog.info? 33).map (·.size) = some 32 := by kernel_rfl

theorem byte_of (n i : Nat) (hi : i < 8) : (n : Int) * 8 / 2 ^ (56 - 8 * i) % 256 = ((UInt8.ofNat (8 * n / 256 ^ (8 - 1 - i))).toNat : Int) := by
  have e : (2 : Int) ^ (56 - 8 * i) = ((256 ^ (8 - 1 - i) : Nat) : Int) := by
    rw [show 56 - 8 * i = 8 * (8 - 1 - i) by omega, Int.pow_mul]
    rw [Int.natCast_pow]
    rfl
  rw [e, UInt8.toNat_ofNat', Int.natCast_emod, Int.natCast_ediv, Int.natCast_mul, Int.mul_comm]
  rfl

/-- The cells of a hash of which i words are written. -/
def hcells (l : List (BitVec 32)) (i : Nat) : List Value := byteCells ((l.take i).flatMap Sha.bytes) ++ List.replicate (32 - 4 * i) (.int .u8 0)

theorem bytes_length (x : BitVec 32) : (Sha.bytes x).length = 4 := by simp [Sha.bytes, Sha.be]

theorem flat_length (l : List (BitVec 32)) : (l.flatMap Sha.bytes).length = 4 * l.length := by
  induction l with
  | nil => rfl
  | cons x l ih => rw [List.flatMap_cons, List.length_append, bytes_length, ih, List.length_cons]; omega

theorem hcells_length (l : List (BitVec 32)) (i : Nat) (hl : l.length = 8) (hi : i ≤ 8) : (hcells l i).length = 32 := by
  unfold hcells
  rw [List.length_append, byteCells_length, flat_length, List.length_take, List.length_replicate, hl]
  omega

theorem word_byte (x : BitVec 32) (k : Nat) (hk : k < 4) : u x / 2 ^ (24 - 8 * k) % 256 = ((UInt8.ofNat (x.toNat / 256 ^ (4 - 1 - k))).toNat : Int) := by
  have e : (2 : Int) ^ (24 - 8 * k) = ((256 ^ (4 - 1 - k) : Nat) : Int) := by
    rw [show 24 - 8 * k = 8 * (4 - 1 - k) by omega, Int.pow_mul]
    rw [Int.natCast_pow]
    rfl
  unfold u
  rw [e, UInt8.toNat_ofNat', Int.natCast_emod, Int.natCast_ediv]
  rfl

theorem word_cells (x : BitVec 32) : byteCells (Sha.bytes x) = [.int .u8 (u x / 16777216 % 256), .int .u8 (u x / 65536 % 256), .int .u8 (u x / 256 % 256), .int .u8 (u x % 256)] := by
  have h0 : u x / 16777216 % 256 = _ := word_byte x 0 (by omega)
  have h1 : u x / 65536 % 256 = _ := word_byte x 1 (by omega)
  have h2 : u x / 256 % 256 = _ := word_byte x 2 (by omega)
  have h3 := word_byte x 3 (by omega)
  have h3' : u x % 256 = ((UInt8.ofNat (x.toNat / 256 ^ (4 - 1 - 3))).toNat : Int) := by
    rw [← h3]
    simp
  have e : byteCells (Sha.bytes x) = [.int .u8 ((UInt8.ofNat (x.toNat / 256 ^ (4 - 1 - 0))).toNat : Int), .int .u8 ((UInt8.ofNat (x.toNat / 256 ^ (4 - 1 - 1))).toNat : Int), .int .u8 ((UInt8.ofNat (x.toNat / 256 ^ (4 - 1 - 2))).toNat : Int), .int .u8 ((UInt8.ofNat (x.toNat / 256 ^ (4 - 1 - 3))).toNat : Int)] := rfl
  rw [e, ← h0, ← h1, ← h2, ← h3']

theorem hcells_next (l : List (BitVec 32)) (i : Nat) (hl : l.length = 8) (hi : i < 8) : ((((hcells l i).set (4 * i) (.int .u8 (u (l.getD i 0) / 16777216 % 256))).set (4 * i + 1) (.int .u8 (u (l.getD i 0) / 65536 % 256))).set (4 * i + 2) (.int .u8 (u (l.getD i 0) / 256 % 256))).set (4 * i + 3) (.int .u8 (u (l.getD i 0) % 256)) = hcells l (i + 1) := by
  have h1 : (byteCells ((l.take i).flatMap Sha.bytes)).length = 4 * i := by
    rw [byteCells_length, flat_length, List.length_take, hl]
    omega
  have hi' : i < l.length := by omega
  have e1 : l.getD i 0 = l[i] := by simp [hi']
  have e2 : 32 - 4 * i = (32 - 4 * (i + 1)) + 1 + 1 + 1 + 1 := by omega
  unfold hcells
  rw [List.take_succ_eq_append_getElem hi', List.flatMap_append, List.flatMap_cons, List.flatMap_nil, List.append_nil, e1]
  have e3 : byteCells ((l.take i).flatMap Sha.bytes ++ Sha.bytes l[i]) = byteCells ((l.take i).flatMap Sha.bytes) ++ byteCells (Sha.bytes l[i]) := by
    unfold byteCells
    rw [List.map_append]
  rw [e3, word_cells, e2, List.replicate_succ, List.replicate_succ, List.replicate_succ, List.replicate_succ]
  rw [List.set_append_right _ _ (by omega), h1, Nat.sub_self, List.set_cons_zero, List.set_append_right _ _ (by omega), h1, Nat.add_sub_cancel_left, List.set_append_right _ _ (by omega), h1, Nat.add_sub_cancel_left, List.set_append_right _ _ (by omega), h1, Nat.add_sub_cancel_left]
  simp

theorem hcells_one (l : List (BitVec 32)) (i : Nat) : ∀ v ∈ hcells l i, v.oneCell' = true := by
  intro v hv
  rcases List.mem_append.1 hv with h | h
  · obtain ⟨x, _, rfl⟩ := List.mem_map.1 h
    rfl
  · rw [List.eq_of_mem_replicate h]
    rfl

theorem hcells_all (s : Sha.S8) : hcells s.list 8 = byteCells s.bytes := by
  unfold hcells Sha.S8.bytes Sha.S8.list
  simp [List.append_assoc]

theorem words_at (s : Sha.S8) : ∀ j : Nat, j < 8 → ∀ w, (Instr.index 162 (.agg (wordCells s.list).toArray) (.int .i64 (j : Int))).run Try.prog w = .ok (.int .u32 (u (s.list.getD j 0))) w
  | 0, _, _ => by kernel_rfl
  | 1, _, _ => by kernel_rfl
  | 2, _, _ => by kernel_rfl
  | 3, _, _ => by kernel_rfl
  | 4, _, _ => by kernel_rfl
  | 5, _, _ => by kernel_rfl
  | 6, _, _ => by kernel_rfl
  | 7, _, _ => by kernel_rfl
  | j + 8, h, _ => by omega

noncomputable def finTail : Code := dropSeq 6 ((Try.f99.body).getD .skip)
noncomputable def finMid : Code := dropSeq 2 ((Try.f99.body).getD .skip)

set_option maxRecDepth 100000 in
set_option maxHeartbeats 2000000 in
theorem fin_tail {q1_ q3_ q4_ q5_ q6_ q7_ q8_ q9_ q10_ q11_ q12_ q13_ q14_ q15_ q16_ q17_ q18_ q19_ q20_ q21_ q22_ q23_ q24_ q25_ q26_ q27_ q28_ q29_ q30_ q31_ q32_ q33_ q34_ q35_ q36_ q37_ q38_ q39_ q40_ q41_ q42_ q43_ q44_ q45_ q46_ q47_ q48_ q49_ q50_ q51_ q52_ q53_ q54_ q55_ q56_ q57_ q58_ q59_ q60_ q61_ q62_ q63_ q64_ q65_ q66_ q67_ q68_ q69_ q70_ q71_ q72_ q73_ q74_ q75_ q76_ q77_ q78_ q79_ q80_ q81_ q82_ q83_ q84_ q85_ q86_ q87_ q88_ q89_ q90_ q91_ q92_ q93_ q94_ q95_ q96_ q97_ q98_ q99_ q100_ q101_ q102_ q103_ q104_ q105_ q106_ q107_ q108_ q109_ q110_ q111_ : Value} (g B : Nat) (n : Nat) (S : Sha.S8) (R : List UInt8) (hR : R.length = 64) (hn : n < 1152921504606846976) {w : World} (hH : Holds w g 174 (digCells S R (n : Int)))
    (hB : w.heap[B]? = some (.cells z32 33 (0, 0))) (hgB : g ≠ B) {Rr : Ending → World → Prop}
    (hQ : ∀ w', Turns w w' g (some B) → Rr (.returned (.agg (byteCells (Sha.compress S (Sha.laid R (Sha.be 8 (8 * n)) 56)).bytes).toArray)) w') :
    Code.wp Try.prog finTail (bodyPost Try.prog Try.f99 Rr) ⟨#[
    .pointer (some ⟨g, 0, none⟩), q1_, .pointer (some ⟨B, 0, none⟩), q3_, q4_, q5_, q6_, q7_, q8_, q9_, q10_, q11_, q12_, q13_, q14_, q15_, q16_, q17_, q18_, q19_, q20_, q21_, q22_, 
    q23_, q24_, q25_, q26_, q27_, q28_, q29_, q30_, q31_, q32_, q33_, q34_, q35_, q36_, q37_, q38_, q39_, q40_, q41_, q42_, q43_, q44_, q45_, q46_, q47_, q48_, q49_, q50_, q51_, q52_, 
    q53_, q54_, q55_, q56_, q57_, q58_, q59_, q60_, q61_, q62_, q63_, q64_, q65_, q66_, q67_, q68_, q69_, q70_, q71_, q72_, q73_, q74_, q75_, q76_, q77_, q78_, q79_, q80_, q81_, q82_, 
    q83_, q84_, q85_, q86_, q87_, q88_, q89_, q90_, q91_, q92_, q93_, q94_, q95_, q96_, q97_, q98_, q99_, q100_, q101_, q102_, q103_, q104_, q105_, q106_, q107_, q108_, q109_, q110_, 
    q111_], []⟩ w := by
  conv => arg 2; whnf
  have cl := (hH.cell 72).trans (dig_len S R _ hR)
  have hQ' := hid hQ
  have hB' := hid hB
  clear hQ hB
  obtain ⟨L, hL⟩ : ∃ L, Sha.be 8 (8 * n) = L := ⟨_, rfl⟩
  have hL' := hid hL
  go_wp2_with fail
  go_loopw [53] (fun v wr => ∃ i : Nat, i ≤ 8 ∧ v = .int .i64 (i : Int) ∧ Holds wr g 174 (digCells S (Sha.laid R (L.take i) 56) (n : Int)) ∧ w.grownBy wr (some g)) (fun v _ => 8 - (intOf v).toNat)
  case atStart => exact ⟨0, by omega, rfl, by rw [List.take_zero, Sha.laid_nil]; exact hH, World.grownBy.refl _ _⟩
  case round =>
    obtain ⟨i, hi, rfl, hW, hG⟩ := hrel
    by_cases hlt : i < 8
    · have hW' := hid hW
      have hG' := hid hG
      have hr1 : (Sha.laid R (L.take i) 56).length = 64 := by
        rw [Sha.laid_length, hR]
        have : (L.take i).length ≤ 8 := by rw [List.length_take]; omega
        omega
      have c0 := hW.cell (8 + (56 + i))
      have cf := hW.frozen (8 + (56 + i))
      obtain ⟨v0, hv0⟩ : ∃ v0, (digCells S (Sha.laid R (L.take i) 56) (n : Int))[8 + (56 + i)]? = some v0 := ⟨_, List.getElem?_eq_getElem (by rw [dig_length S _ _ hr1]; omega)⟩
      rw [hv0] at c0
      clear hW hG hv0 hL cl hH
      have s1 := IntWalk.i64_in (56 + (i : Int)) (by omega)
      have s2 := IntWalk.i64_in (8 * (i : Int)) (by omega)
      have s3 := IntWalk.i64_in (56 - 8 * (i : Int)) (by omega)
      have p1 : 0 ≤ 56 + (i : Int) := by omega
      have p2 : 56 + (i : Int) < 64 := by omega
      have p3 : (56 + (i : Int)).toNat = 56 + i := by omega
      have p4 : 0 ≤ 56 - 8 * (i : Int) := by omega
      have p5 : (56 - 8 * (i : Int)).toNat = 56 - 8 * i := by omega
      have p6 : 8 * (i : Int) ≤ 56 := by omega
      go_wp2_with fail
      go_still_tail 12, (by kernel_rfl)
      change wpList _ _ _ _ _ wr.drew
      clear s1 s2 s3 p3 p5
      go_wp2
      refine ⟨⟨i + 1, by omega, rfl, ?_, only_drew (only_setCell hG'.out _ _)⟩, ?_⟩
      · have hl8 : (L.take i).length = i := by
          rw [List.length_take, ← hL'.out, Sha.beL8_length]
          omega
        have h := (hW'.out.set (8 + (56 + i)) (.int .u8 ((n : Int) * 8 / 2 ^ (56 - 8 * i) % 256))).drew
        rw [byte_of n i hlt, dig_one _ _ _ _ _ hr1 (by omega)] at h
        have e := Sha.laid_snoc R (L.take i) (UInt8.ofNat (8 * n / 256 ^ (8 - 1 - i))) 56 (by rw [hl8, hR]; omega)
        rw [hl8] at e
        rw [e, ← hL'.out, ← Sha.be_take 8 (8 * n) i hlt, hL'.out] at h
        rw [byte_of n i hlt]
        exact h
      · simp [intOf]
        omega
    · obtain rfl : i = 8 := by omega
      have hl8 : L.length = 8 := by rw [← hL, Sha.beL8_length]
      rw [List.take_of_length_le (by omega)] at hW
      have hr1 : (Sha.laid R L 56).length = 64 := by
        rw [Sha.laid_length, hR]
        omega
      have hBg := hid (hG.block B)
      have hlt0 : w.heap.size ≤ wr.heap.size := hG.size
      have hW' := hid hW
      have hG' := hid hG
      clear hW hG hL cl hH
      go_wp2_with fail
      go_still_tail 6, (by kernel_rfl)
      change wpList _ _ _ _ _ wr.drew
      go_wp2_with fail
      refine (mix_any g _ S (Sha.laid R L 56) _ hr1 _ hW'.out.drew).mono ?_
      rintro e w2 ⟨rfl, hH2, hG2⟩
      generalize hS2 : Sha.compress S (Sha.laid R L 56) = S2 at *
      have hS2' := hid hS2
      clear hS2
      have hH2' := hid hH2
      have hG2' := hid hG2
      obtain ⟨W3, hW3⟩ : ∃ W3, w2.alloc (.cells z32 33) = W3 := ⟨_, rfl⟩
      have hH3 : Holds W3 g 174 (digCells S2 (Sha.laid R L 56) (n : Int)) := by rw [← hW3]; exact hH2.alloc _
      have hr3 : W3.rangeAt g 0 (wordCells S2.list) := by
        refine hH3.range 0 _ fun j hj => ?_
        rw [dig_form, List.append_assoc, Nat.zero_add, List.getElem?_append_left hj]
      obtain ⟨A8, hA8⟩ : ∃ A8, (wordCells S2.list).toArray = A8 := ⟨_, rfl⟩
      clear hH2 hG2
      go_wp2_with (first
        | ((with_reducible refine at_slot (some 6) ?_); refine wpList_run rfl (.pointer (some ⟨w2.heap.size, 0, none⟩)) (w2.alloc (.cells z32 33)) (by kernel_rfl) ?_; rw [hW3])
        | ((with_reducible refine at_slot (some 79) ?_); refine wpList_load_mid rfl 162 (.tmp 78) rfl g 0 rfl (wordCells S2.list) _ (by exact hr3) Try.underlying162 rfl (by exact Try.sizeW8) ?_; rw [hA8]))
      have ix := words_at S2
      rw [hA8] at ix
      have hBH : Holds W3 w2.heap.size 33 (hcells S2.list 0) := by rw [← hW3]; exact Holds.new w2 _ z32
      have hlt3 : w2.heap.size < W3.heap.size := by rw [← hW3]; simp
      have hlt2 : wr.heap.size ≤ w2.heap.size := hG2'.out.size
      have hG3 : w2.grownBy W3 none := by rw [← hW3]; exact only_of_below ((Below.refl _ _).alloc (Nat.le_refl _) _) _
      have hG3' := hid hG3
      have hsl : S2.list.length = 8 := rfl
      have ix' := hid ix
      clear hG3 ix hH3 hr3 hA8 hW3
      revert ix' hBH hlt3 hsl
      generalize hSL : S2.list = sl
      intro hBH hlt3 hsl ix'
      have hSL' := hid hSL
      clear hSL
      generalize hBHn : w2.heap.size = BH at *
      have hBHn' := hid hBHn
      clear hBHn
      go_loopw [80] (fun v wq => ∃ i : Nat, i ≤ 8 ∧ v = .int .i64 (i : Int) ∧ Holds wq BH 33 (hcells sl i) ∧ W3.grownBy wq (some BH)) (fun v _ => 8 - (intOf v).toNat)
      case atStart => exact ⟨0, by omega, rfl, hBH, World.grownBy.refl _ _⟩
      case round =>
        clear hlt hi
        obtain ⟨i, hi, rfl, hW, hG⟩ := hrel
        by_cases hlt : i < 8
        · have ixi := ix'.out i hlt
          have hcl := hcells_length sl i hsl hi
          obtain ⟨v0, c0⟩ : ∃ v, wr.cell? ⟨BH, 4 * i, none⟩ = some v := ⟨_, (hW.cell _).trans (List.getElem?_eq_getElem (by omega))⟩
          obtain ⟨v1, c1⟩ : ∃ v, wr.cell? ⟨BH, 4 * i + 1, none⟩ = some v := ⟨_, (hW.cell _).trans (List.getElem?_eq_getElem (by omega))⟩
          obtain ⟨v2, c2⟩ : ∃ v, wr.cell? ⟨BH, 4 * i + 2, none⟩ = some v := ⟨_, (hW.cell _).trans (List.getElem?_eq_getElem (by omega))⟩
          obtain ⟨v3, c3⟩ : ∃ v, wr.cell? ⟨BH, 4 * i + 3, none⟩ = some v := ⟨_, (hW.cell _).trans (List.getElem?_eq_getElem (by omega))⟩
          have f0 := hW.frozen (4 * i)
          have f1 := hW.frozen (4 * i + 1)
          have f2 := hW.frozen (4 * i + 2)
          have f3 := hW.frozen (4 * i + 3)
          have hn4 := hcells_next sl i hsl hlt
          generalize sl.getD i 0 = X at *
          have hn4' := hid hn4
          have hW' := hid hW
          have hG' := hid hG
          clear hn4 hW hG hcl hBH
          have s0 := IntWalk.i64_in (4 * (i : Int)) (by omega)
          have s1 := IntWalk.i64_in (4 * (i : Int) + 1) (by omega)
          have s2 := IntWalk.i64_in (4 * (i : Int) + 2) (by omega)
          have s3 := IntWalk.i64_in (4 * (i : Int) + 3) (by omega)
          have n0 : (4 * (i : Int)).toNat = 4 * i := by omega
          have n1 : (4 * (i : Int) + 1).toNat = 4 * i + 1 := by omega
          have n2 : (4 * (i : Int) + 2).toNat = 4 * i + 2 := by omega
          have n3 : (4 * (i : Int) + 3).toNat = 4 * i + 3 := by omega
          go_wp2
          refine ⟨⟨i + 1, by omega, rfl, ?_, ?_⟩, ?_⟩
          · rw [← hn4'.out]
            exact (((hW'.out.set (4 * i) _).set (4 * i + 1) _).set (4 * i + 2) _).set (4 * i + 3) _
          · exact only_setCell (only_setCell (only_setCell (only_setCell hG'.out _ _) _ _) _ _) _ _
          · simp [intOf]
            omega
        · obtain rfl : i = 8 := by omega
          have hcl := hcells_length sl 8 hsl hi
          obtain ⟨H, hH8⟩ : ∃ H, (hcells sl 8).toArray = H := ⟨_, rfl⟩
          have hHs : H.size = 32 := by rw [← hH8]; simpa using hcl
          have hH1 : H.all (·.oneCell') = true := by
            rw [← hH8]
            exact all_oneCell_toArray (hcells_one sl 8)
          have hrow : wr.heap[BH]? = some (.cells H 33 (0, 0)) := by rw [← hH8]; exact hW
          have hBlt : B < w.heap.size := by
            rcases Nat.lt_or_ge B w.heap.size with h | h
            · exact h
            · have := hB'.out
              rw [Array.getElem?_eq_none h] at this
              cases this
          have hBw : BH = w2.heap.size := hBHn'.out.symm
          have hne : some B ≠ some g := by
            intro e
            exact hgB (Option.some.inj e).symm
          have hneH : some B ≠ some BH := by
            intro e
            have := Option.some.inj e
            omega
          have r1 := (hBg.out hBlt hne).trans hB'.out
          have r2 := (hG2'.out.block B (by show B < _; exact Nat.lt_of_lt_of_le hBlt hlt0) hne).trans r1
          have r3 := (hG3'.out.block B (by omega) (by simp)).trans r2
          have r4 := (hG.block B (by have := hG3'.out.size; omega) hneH).trans r3
          have hT0 := only_trans (only_drew hG'.out) hG2'.out
          have hG4 := hid hG
          have hH8' := hid hH8
          clear hG hW hH8 r1 r2 r3 hcl hlt
          go_wp2_with (first
            | ((with_reducible refine at_slot (some 111) ?_); refine wpList_load_row rfl 33 (.tmp 6) rfl BH rfl 33 H (0, 0) _ (by exact hrow) Try.underlying33 rfl (by rw [Try.infoHash, hHs]) ?_)
            | ((with_reducible refine at_slot none ?_); refine wpList_store_row rfl 33 (.tmp 2) (.tmp 111) rfl B H rfl rfl 33 z32 (by exact r4) (by rw [Try.infoHash, hHs]) (by rw [hHs]; rfl) (by exact hH1) ?_))
          have hs0 := setRow_heap wr B z32 H 33 (0, 0) r4
          refine bodyPost_ret (v := .agg H) (results_cell_row rfl _ _ B 33 H (0, 0) _ rfl hs0 Try.underlying33 rfl (by rw [Try.infoHash, hHs])) rfl ?_
          have hfin : H = (byteCells (Sha.compress S (Sha.laid R (Sha.be 8 (8 * n)) 56)).bytes).toArray := by
            rw [hL'.out, hS2'.out, ← hH8'.out, ← hSL'.out, hcells_all]
          rw [hfin]
          refine hQ'.out _ ?_
          rw [← hfin]
          refine ⟨hG4.out.os.trans (hG3'.out.os.trans hT0.os), hG4.out.tape.trans (hG3'.out.tape.trans hT0.tape), hG4.out.output.trans (hG3'.out.output.trans hT0.output), ?_, ?_⟩
          · have h1 := hG4.out.size
            have h2 := hG3'.out.size
            have h3 := hT0.size
            simp
            omega
          · intro k hk hkg hkB
            have h3 := hT0.size
            have h2 := hG3'.out.size
            have hkH : some k ≠ some BH := by
              intro e
              have := Option.some.inj e
              omega
            refine (setRow_other wr _ _ _ (fun e => hkB (by rw [e]))).trans ((hG4.out.block k (by omega) hkH).trans ((hG3'.out.block k (by omega) (by simp)).trans (hT0.block k hk (fun e => hkg (Option.some.inj e)))))

end Go.Proofs.Ytpjfhbmegabafaa
namespace Go.Proofs.Ytpjfhbmegabafaa
open Go.RowKit

attribute [local irreducible] Sha.compress Sha.blocks

def partSeq : Nat → Code → Code
  | 0, .seq a _ => a
  | n + 1, .seq _ c => partSeq n c
  | _, c => c

noncomputable def finPart (n : Nat) : Code := partSeq n ((Try.f99.body).getD .skip)

theorem fin_body : Try.f99.body = some (.seq (finPart 0) (.seq (finPart 1) finMid)) := by kernel_rfl
theorem fin_mid_eq : finMid = .seq (finPart 2) (.seq (finPart 3) (.seq (finPart 4) (.seq (finPart 5) finTail))) := by kernel_rfl

section
variable {P : Program} {ops : Array Oper} {o : Oper} {a : Act} {w : World} {Q : Exit → Act → World → Prop}
/-- The operation 'clear(s)', its run known. -/
theorem wpList_clear_run {rest : List Oper} (hgd : o.guard = none) (x : Operand) (t : TypeId) (ho : o.op = .call { callee := .builtin .clear, args := #[x], argTypes := #[t] }) (v : Value) (hx : a.eval x = v) {v' : Value} {w' : World}
    (hr : (Builtin.clear_ #[t] o.type #[v]).run P w = .ok v' w') (h : wpList P ops Q rest (a.put o.dst v') w') : wpList P ops Q (o :: rest) a w :=
  wpList_plain hgd fun _ hK => by
    unfold Oper.wp execOp
    simp only [ho, resolve, invoke, builtin, Sem.run_bind, Sem.run_pure, Result.andThen_ok, List.map_toArray, List.map_cons, List.map_nil, hx, hr]
    exact hK _ _ h
end

theorem zeroU8 (w : World) : (zeroValue 5).run Try.prog w = .ok (.int .u8 0) w := by kernel_rfl

theorem byteCells_zero (m : Nat) : byteCells (List.replicate m 0) = List.replicate m (.int .u8 0) := by
  unfold byteCells
  rw [List.map_replicate]
  rfl

/-- 'clear' of part of a digest's bytes. -/
theorem run_clear_dig (w : World) (g : Nat) (s : Sha.S8) (rest : List UInt8) (n : Int) (hr : rest.length = 64) (h : Holds w g 174 (digCells s rest n)) (k : Nat) (hk : k < 64) (ty : TypeId) :
    ∃ w', (Builtin.clear_ #[51] ty #[.slice (some ⟨g, 8 + k, none⟩) (64 - k) (64 - k)]).run Try.prog w = .ok (.tuple #[]) w' ∧ Holds w' g 174 (digCells s (rest.take k ++ List.replicate (64 - k) 0) n) ∧ w.grownBy w' (some g) := by
  have hth := h.there (8 + k) (64 - k) (by rw [dig_length s rest n hr]; omega)
  refine ⟨_, Lib.run_clear_slice w 51 5 ty (.int .u8 0) Try.underlying51 zeroU8 rfl rfl g (8 + k) (64 - k) (64 - k) (by omega) (fun j hj => (hth j hj).1) (fun j hj => (hth j hj).2), ?_, only_setCells (World.grownBy.refl _ _) _ _⟩
  rw [← byteCells_zero]
  have h1 := h.put (8 + k) (byteCells (List.replicate (64 - k) 0)) (by rw [dig_length s rest n hr, byteCells_length, List.length_replicate]; omega)
  rw [dig_bytes s rest _ k n hr (by rw [List.length_replicate]; omega)] at h1
  have e : Sha.laid rest (List.replicate (64 - k) 0) k = rest.take k ++ List.replicate (64 - k) 0 := by
    unfold Sha.laid
    rw [List.drop_of_length_le (by rw [List.length_replicate]; omega), List.append_nil]
  rw [e] at h1
  exact h1

theorem run_slice_end (w : World) (g : Nat) : ∃ A, (Instr.sliceAt 172 (.pointer (some ⟨g, 8, none⟩)) (some (.int .i64 64)) none none).run Try.prog w = .ok (.slice A 0 0) w := by
  first
    | exact ⟨some ⟨g, 8, none⟩, by kernel_rfl⟩
    | exact ⟨some ⟨g, 72, none⟩, by kernel_rfl⟩
    | exact ⟨none, by kernel_rfl⟩

theorem run_clear_none (w : World) (A : Option Addr) (ty : TypeId) : (Builtin.clear_ #[51] ty #[.slice A 0 0]).run Try.prog w = .ok (.tuple #[]) w := by
  cases A <;> simp [Builtin.clear_, run_underlying Try.underlying51]

set_option maxRecDepth 100000 in
set_option maxHeartbeats 2000000 in
theorem fin_mid {q1_ q3_ q4_ q5_ q6_ q7_ q8_ q9_ q10_ q11_ q12_ q13_ q14_ q15_ q16_ q17_ q18_ q19_ q20_ q21_ q22_ q23_ q24_ q25_ q26_ q27_ q28_ q29_ q30_ q31_ q32_ q33_ q34_ q35_ q36_ q37_ q38_ q39_ q40_ q41_ q42_ q43_ q44_ q45_ q46_ q47_ q48_ q49_ q50_ q51_ q52_ q53_ q54_ q55_ q56_ q57_ q58_ q59_ q60_ q61_ q62_ q63_ q64_ q65_ q66_ q67_ q68_ q69_ q70_ q71_ q72_ q73_ q74_ q75_ q76_ q77_ q78_ q79_ q80_ q81_ q82_ q83_ q84_ q85_ q86_ q87_ q88_ q89_ q90_ q91_ q92_ q93_ q94_ q95_ q96_ q97_ q98_ q99_ q100_ q101_ q102_ q103_ q104_ q105_ q106_ q107_ q108_ q109_ q110_ q111_ : Value} (g B : Nat) (t : List UInt8) (S : Sha.S8) (R : List UInt8) (hV : Sha.Valid S R t) (hn : t.length < 1152921504606846976) {w : World} (hH : Holds w g 174 (digCells S R (t.length : Int)))
    (hB : w.heap[B]? = some (.cells z32 33 (0, 0))) (hgB : g ≠ B) {Rr : Ending → World → Prop}
    (hQ : ∀ w', Turns w w' g (some B) → Rr (.returned (.agg (byteCells (Sha.sha t)).toArray)) w') :
    Code.wp Try.prog finMid (bodyPost Try.prog Try.f99 Rr) ⟨#[
    .pointer (some ⟨g, 0, none⟩), q1_, .pointer (some ⟨B, 0, none⟩), q3_, q4_, q5_, q6_, q7_, q8_, q9_, q10_, q11_, q12_, q13_, q14_, q15_, q16_, q17_, q18_, q19_, q20_, q21_, q22_, 
    q23_, q24_, q25_, q26_, q27_, q28_, q29_, q30_, q31_, q32_, q33_, q34_, q35_, q36_, q37_, q38_, q39_, q40_, q41_, q42_, q43_, q44_, q45_, q46_, q47_, q48_, q49_, q50_, q51_, q52_, 
    q53_, q54_, q55_, q56_, q57_, q58_, q59_, q60_, q61_, q62_, q63_, q64_, q65_, q66_, q67_, q68_, q69_, q70_, q71_, q72_, q73_, q74_, q75_, q76_, q77_, q78_, q79_, q80_, q81_, q82_, 
    q83_, q84_, q85_, q86_, q87_, q88_, q89_, q90_, q91_, q92_, q93_, q94_, q95_, q96_, q97_, q98_, q99_, q100_, q101_, q102_, q103_, q104_, q105_, q106_, q107_, q108_, q109_, q110_, 
    q111_], []⟩ w := by
  rw [fin_mid_eq]
  have hR := hV.1
  have cl := (hH.cell 72).trans (dig_len S R _ hR)
  have hk := Nat.mod_lt t.length (show 0 < 64 by omega)
  have hps := hid (fun h => Sha.pad_short hV h)
  have hpl := hid (fun h => Sha.pad_long hV h)
  have hrem : (t.length : Int) % 64 = ((t.length % 64 : Nat) : Int) := rfl
  generalize hkk : t.length % 64 = k at *
  have hkk' := hid hkk
  have hV' := hid hV
  have hQ' := hid hQ
  have hB' := hid hB
  clear hkk hV hQ hB
  have c0 := hH.cell (8 + k)
  have cf := hH.frozen (8 + k)
  obtain ⟨v0, hv0⟩ : ∃ v0, (digCells S R (t.length : Int))[8 + k]? = some v0 := ⟨_, List.getElem?_eq_getElem (by rw [dig_length S _ _ hR]; omega)⟩
  rw [hv0] at c0
  have hH1 := hH.set (8 + k) (.int .u8 ((128 : UInt8).toNat : Int))
  rw [dig_one S R 128 k _ hR hk] at hH1
  change Holds (w.setCell _ (.int .u8 128)) _ _ _ at hH1
  have hG1 : w.grownBy (w.setCell ⟨g, 8 + k, none⟩ (.int .u8 128)) (some g) := only_setCell (World.grownBy.refl _ _) _ _
  have hH1' := hid hH1
  have hG1' := hid hG1
  clear hH1 hG1 hH hv0
  refine wp_seq ?_
  conv => arg 2; whnf
  go_wp2
  rw [hrem]
  conv => arg 2; whnf
  go_wp2
  have hH1 := hH1'.out
  have hG1 := hG1'.out
  clear hH1' hG1' c0 cf cl hrem
  generalize w.setCell ⟨g, 8 + k, none⟩ (.int .u8 128) = W1 at *
  have hr1 : (Sha.laid R [128] k).length = 64 := by rw [Sha.laid_length, hR]; rw [hR, List.length_singleton]; omega
  have s1 := IntWalk.i64_in ((k : Int) + 1) (by omega)
  have hcl : ∃ A W2, (Instr.sliceAt 172 (.pointer (some ⟨g, 8, none⟩)) (some (.int .i64 ((k : Int) + 1))) none none).run Try.prog W1 = .ok (.slice A (63 - k) (63 - k)) W1 ∧
      (Builtin.clear_ #[51] 0 #[.slice A (63 - k) (63 - k)]).run Try.prog W1 = .ok (.tuple #[]) W2 ∧ Holds W2 g 174 (digCells S (R.take k ++ [128] ++ List.replicate (63 - k) 0) (t.length : Int)) ∧ w.grownBy W2 (some g) := by
    by_cases hk63 : k = 63
    · subst hk63
      obtain ⟨A, hA⟩ := run_slice_end W1 g
      refine ⟨A, W1, hA, run_clear_none W1 A 0, ?_, hG1⟩
      have e : Sha.laid R [128] 63 = R.take 63 ++ [128] ++ List.replicate (63 - 63) 0 := by
        unfold Sha.laid
        rw [List.drop_of_length_le (by rw [hR]; decide)]
        rfl
      rw [← e]
      exact hH1
    · obtain ⟨W2, h1, h2, h3⟩ := run_clear_dig W1 g S _ _ hr1 hH1 (k + 1) (by omega) 0
      have hA := run_sliceAt_from (P := Try.prog) 172 5 g 8 64 (k + 1) (by omega) Try.underlying172 (by kernel_rfl) W1
      have e0 : 64 - (k + 1) = 63 - k := by omega
      rw [e0] at h1 h2 hA
      refine ⟨_, W2, hA, h1, ?_, only_trans hG1 h3⟩
      have e : (Sha.laid R [128] k).take (k + 1) = R.take k ++ [128] := by
        unfold Sha.laid
        rw [List.take_append_of_le_length (by simp; omega), List.take_of_length_le (by simp; omega)]
      rw [e] at h2
      exact h2
  obtain ⟨A, W2, hA, hclr, hH2, hG2⟩ := hcl
  have hH2' := hid hH2
  have hG2' := hid hG2
  clear hH1 hG1 hH2 hG2
  conv => arg 2; whnf
  go_wp2_with (refine wpList_clear_run rfl (.tmp 33) 51 rfl _ rfl (by exact hclr) ?_)
  clear hA hclr
  conv => arg 2; whnf
  have hl2 : (R.take k ++ [128] ++ List.replicate (63 - k) 0).length = 64 := by
    simp [hR]
    omega
  have hB2 : W2.heap[B]? = some (.cells z32 33 (0, 0)) := by
    have hBlt : B < w.heap.size := by
      rcases Nat.lt_or_ge B w.heap.size with h | h
      · exact h
      · have := hB'.out
        rw [Array.getElem?_eq_none h] at this
        cases this
    exact (hG2'.out.block B hBlt (fun e => hgB (Option.some.inj e).symm)).trans hB'.out
  have hT2 : Turns w W2 g (some B) := Turns.of_only hG2'.out _
  have hB2' := hid hB2
  have hT2' := hid hT2
  clear hB2 hT2
  by_cases h56 : k < 56
  · have hsum : Sha.compress S (Sha.laid (R.take k ++ [128] ++ List.replicate (63 - k) 0) (Sha.be 8 (8 * t.length)) 56) = Sha.blocks (Sha.pad t) ((Sha.pad t).length / 64) := by
      rw [← hps.out h56]
      congr 1
      unfold Sha.laid
      rw [List.drop_of_length_le (by rw [hl2, Sha.beL8_length]; exact Nat.le_refl _), List.append_nil]
      congr 1
      have e : 63 - k = (55 - k) + 8 := by omega
      have hlen : (R.take k ++ [128] ++ List.replicate (55 - k) 0).length = 56 := by
        simp [hR]
        omega
      rw [e, ← List.replicate_append_replicate, ← List.append_assoc, ← hlen, List.take_left]
    have hsum' := hid hsum
    clear hsum
    go_wp2
    refine fin_tail g B t.length S _ hl2 hn hH2'.out hB2'.out hgB ?_
    intro w' hT
    rw [hsum'.out]
    exact hQ'.out w' (hT2'.out.trans (.inl rfl) hT)
  · have hsum : Sha.compress (Sha.compress S (R.take k ++ [128] ++ List.replicate (63 - k) 0)) (Sha.laid ((R.take k ++ [128] ++ List.replicate (63 - k) 0).take 0 ++ List.replicate (64 - 0) 0) (Sha.be 8 (8 * t.length)) 56) = Sha.blocks (Sha.pad t) ((Sha.pad t).length / 64) := by
      rw [← hpl.out (by omega)]
      congr 1
    have hsum' := hid hsum
    have hl3 : ((R.take k ++ [128] ++ List.replicate (63 - k) 0).take 0 ++ List.replicate (64 - 0) 0 : List UInt8).length = 64 := by simp
    clear hsum
    generalize hR2 : R.take k ++ [128] ++ List.replicate (63 - k) 0 = R2 at *
    have hR2' := hid hR2
    clear hR2
    go_wp2_with fail
    go_still_tail 6, (by kernel_rfl)
    change wpList _ _ _ _ _ W2.drew
    go_wp2_with fail
    refine (mix_any g _ S R2 _ hl2 _ hH2'.out.drew).mono ?_
    rintro e w3 ⟨rfl, hH3, hG3⟩
    generalize hS3 : Sha.compress S R2 = S3 at *
    have hS3' := hid hS3
    clear hS3
    obtain ⟨W4, hc, hH4, hG4⟩ := run_clear_dig w3 g S3 R2 _ hl2 hH3 0 (by omega) 0
    have hG5 := only_trans (only_drew hG2'.out) (only_trans hG3 hG4)
    have hl0 := hG2'.out.size
    have hB4 : W4.heap[B]? = some (.cells z32 33 (0, 0)) := by
      have hBlt : B < w.heap.size := by
        rcases Nat.lt_or_ge B w.heap.size with h | h
        · exact h
        · have := hB'.out
          rw [Array.getElem?_eq_none h] at this
          cases this
      exact (hG5.block B hBlt (fun e => hgB (Option.some.inj e).symm)).trans hB'.out
    have hT4 : Turns w W4 g (some B) := Turns.of_only hG5 _
    have hB4' := hid hB4
    have hT4' := hid hT4
    have hH4' := hid hH4
    clear hB4 hT4 hH4 hG5 hG3 hG4 hH3
    go_wp2_with (refine wpList_clear_run rfl (.tmp 46) 51 rfl _ rfl (by exact hc) ?_)
    refine fin_tail g B t.length S3 _ hl3 hn hH4'.out hB4'.out hgB ?_
    intro w' hT
    rw [hsum'.out]
    exact hQ'.out w' (hT4'.out.trans (.inl rfl) hT)

set_option maxRecDepth 100000 in
set_option maxHeartbeats 2000000 in
theorem finish_any (g : Nat) (t : List UInt8) (w : World) (hd : Dig w g t) (hn : t.length < 1152921504606846976) :
    Calls Try.prog 99 #[.pointer (some ⟨g, 0, none⟩)] w fun e w' => e = .returned (.agg (byteCells (Sha.sha t)).toArray) ∧ w.grownBy w' (some g) := by
  obtain ⟨s, rest, hr, hv, hH⟩ := hd
  refine calls_of_wp Try.func99 fin_body ?_
  have hfr : (#[.pointer (some ⟨g, 0, none⟩)] ++ Array.replicate (Try.f99.ntmps - (#[.pointer (some ⟨g, 0, none⟩)] : Array Value).size) undef : Array Value) = #[.pointer (some ⟨g, 0, none⟩), undef, undef, undef, undef, undef, undef, undef, undef, undef, undef, undef, undef, undef, undef, undef, undef, undef, undef, undef, undef, undef, undef, undef, undef, undef, undef, undef, undef, undef, undef, undef, undef, undef, undef, undef, undef, undef, undef, undef, undef, undef, undef, undef, undef, undef, undef, undef, undef, undef, undef, undef, undef, undef, undef, undef, undef, undef, undef, undef, undef, undef, undef, undef, undef, undef, undef, undef, undef, undef, undef, undef, undef, undef, undef, undef, undef, undef, undef, undef, undef, undef, undef, undef, undef, undef, undef, undef, undef, undef, undef, undef, undef, undef, undef, undef, undef, undef, undef, undef, undef, undef, undef, undef, undef, undef, undef, undef, undef, undef, undef, undef] := by kernel_rfl
  rw [hfr]
  have hB0 : (w.alloc (.cells z32 33)).heap[w.heap.size]? = some (.cells z32 33 (0, 0)) := heap_alloc_new _ _
  have hH0 := hH.alloc (.cells z32 33)
  have hgB : g ≠ w.heap.size := Nat.ne_of_lt hH.lt
  have hb0 : Below w.heap.size w (w.alloc (.cells z32 33)) := (Below.refl _ _).alloc (Nat.le_refl _) _
  obtain ⟨W1, hW1⟩ : ∃ W1, w.alloc (.cells z32 33) = W1 := ⟨_, rfl⟩
  rw [hW1] at hB0 hH0 hb0
  have hb0' := hid hb0
  have hv' := hid hv
  have hB0' := hid hB0
  have cl := (hH0.cell 72).trans (dig_len s rest _ hr)
  clear hv hB0 hb0 hH
  have hend : ∀ w', Turns W1 w' g (some w.heap.size) → w.grownBy w' (some g) := by
    intro w' h
    have hb := hb0'.out
    refine ⟨h.os.trans hb.os, h.tape.trans hb.tape, h.output.trans hb.output, Nat.le_trans hb.size h.size, fun k hk hkg => ?_⟩
    refine (h.block k (Nat.lt_of_lt_of_le hk hb.size) (fun e => hkg (by rw [e])) (fun e => ?_)).trans (hb.block k hk)
    have := Option.some.inj e
    omega
  have hend' := hid hend
  clear hend
  refine wp_seq ?_
  conv => arg 2; whnf
  go_wp2_with ((with_reducible refine at_slot (some 2) ?_); refine wpList_run rfl (.pointer (some ⟨w.heap.size, 0, none⟩)) (w.alloc (.cells z32 33)) (by kernel_rfl) ?_; rw [hW1])
  conv => arg 2; whnf
  by_cases ht : t = []
  · have hl0 : ((t.length : Int) == 0) = true := by rw [ht]; rfl
    have ht' := hid ht
    clear ht
    go_wp2_with fail
    refine (firstWords_any _).mono ?_
    rintro e w1 ⟨rfl, hb1⟩
    have hH1 := hH0.below hb1 hH0.lt
    have hth := hH1.there 0 8 (by rw [dig_length s rest _ hr]; omega)
    go_wp2_with (refine wpList_store_mid rfl 162 (.tmp 17) (.tmp 15) rfl g 0 (wordCells Sha.S8.first.list).toArray rfl rfl (by exact hth) (by exact Try.sizeW8) (by exact all_oneCell_toArray (wordCells_one _)) ?_; generalize hW2 : World.setCells _ _ _ _ = W2)
    have hG : W1.grownBy W2 (some g) := by
      rw [← hW2]
      exact only_setCells (only_of_below hb1 _) _ _
    have hH2 := hH1.put 0 (wordCells Sha.S8.first.list) (by rw [dig_length s rest _ hr]; decide)
    rw [dig_words, hW2] at hH2
    have hT : Turns W1 W2 g (some w.heap.size) := Turns.of_only hG _
    have hB2 := (hG.block w.heap.size (by have := hb0'.out.size; have := Array.getElem?_eq_some_iff.1 hB0'.out; exact this.1) (fun e => hgB (Option.some.inj e).symm)).trans hB0'.out
    refine fin_mid g w.heap.size t Sha.S8.first rest (by rw [ht'.out]; exact Sha.valid_first rest hr) hn hH2 hB2 hgB ?_
    intro w' h
    exact ⟨rfl, hend'.out _ (hT.trans (.inl rfl) h)⟩
  · have hl0 : ((t.length : Int) == 0) = false := by
      simp
      exact ht
    have ht' := hid ht
    clear ht
    go_wp2
    refine fin_mid g w.heap.size t s rest (hv'.out ht'.out) hn hH0 hB0'.out hgB ?_
    intro w' h
    exact ⟨rfl, hend'.out _ h⟩

end Go.Proofs.Ytpjfhbmegabafaa
namespace Go.Proofs.Ytpjfhbmegabafaa
open Go.RowKit

attribute [local irreducible] Sha.compress Sha.blocks Sha.sha

def zeroS8 : Sha.S8 := ⟨0, 0, 0, 0, 0, 0, 0, 0⟩
def zeroDig : Array Value := (digCells zeroS8 (List.replicate 64 0) 0).toArray

/-- A hash, as a value. -/
def hashV (t : List UInt8) : Value := .agg (byteCells (Sha.sha t)).toArray

theorem dig_new (w : World) : Dig (w.alloc (.cells zeroDig 174)) w.heap.size [] := by
  exact ⟨zeroS8, List.replicate 64 0, by simp, fun h => absurd rfl h, Holds.new w _ zeroDig⟩

theorem Dig.below {w w' : World} {g : Nat} {t : List UInt8} {B : Nat} (h : Dig w g t) (hb : Below B w w') (hg : g < B) : Dig w' g t := by
  obtain ⟨s, r, h1, h2, h3⟩ := h
  exact ⟨s, r, h1, h2, h3.below hb hg⟩

theorem Dig.grown {w w' : World} {g : Nat} {t : List UInt8} {row : Option Nat} (h : Dig w g t) (hb : w.grownBy w' row) (hg : some g ≠ row) : Dig w' g t := by
  obtain ⟨s, r, h1, h2, h3⟩ := h
  exact ⟨s, r, h1, h2, h3.grown hb hg⟩

theorem Dig.lt {w : World} {g : Nat} {t : List UInt8} (h : Dig w g t) : g < w.heap.size := by
  obtain ⟨s, r, h1, h2, h3⟩ := h
  exact h3.lt

theorem sha_size (t : List UInt8) : (byteCells (Sha.sha t)).toArray.size = 32 := by
  rw [List.size_toArray, byteCells_length, Sha.sha_def]
  simp [Sha.S8.bytes, bytes_length]

theorem byteCells_one (l : List UInt8) : ∀ v ∈ byteCells l, v.oneCell' = true := by
  intro v hv
  obtain ⟨x, _, rfl⟩ := List.mem_map.1 hv
  rfl

set_option maxRecDepth 100000 in
theorem new_any (w : World) : Calls Try.prog 82 #[] w fun e w' => ∃ g, e = .returned (.pointer (some ⟨g, 0, none⟩)) ∧ w.heap.size ≤ g ∧ Dig w' g [] ∧ Below w.heap.size w w' := by
  go_enter Try.func82, Try.ntmps82
  go_wp2_with (first
    | ((with_reducible refine at_slot (some 1) ?_); refine wpList_run rfl (.agg zeroDig) w (by kernel_rfl) ?_)
    | ((with_reducible refine at_slot (some 2) ?_); refine wpList_run rfl (.pointer (some ⟨w.heap.size, 0, none⟩)) (w.alloc (.cells zeroDig 174)) (by kernel_rfl) ?_))
  go_ret
  exact ⟨w.heap.size, rfl, Nat.le_refl _, dig_new w, (Below.refl _ _).alloc (Nat.le_refl _) _⟩


theorem Try.sizeDig : (Try.prog.info? 174).map (·.size) = some 73 := by kernel_rfl

theorem dig_one_cell (s : Sha.S8) (rest : List UInt8) (n : Int) : ∀ v ∈ digCells s rest n, v.oneCell' = true := by
  intro v hv
  rw [dig_form] at hv
  rcases List.mem_append.1 hv with h | h
  · rcases List.mem_append.1 h with h | h
    · exact wordCells_one _ v h
    · exact byteCells_one _ v h
  · rw [List.mem_singleton.1 h]
    rfl

set_option maxRecDepth 100000 in
set_option maxHeartbeats 1000000 in
theorem dsum_any (g : Nat) (t : List UInt8) (w : World) (hd : Dig w g t) (hn : t.length < 1152921504606846976) :
    Calls Try.prog 85 #[.pointer (some ⟨g, 0, none⟩)] w fun e w' => e = .returned (hashV t) ∧ Below w.heap.size w w' := by
  have hglt := hd.lt
  obtain ⟨s, rest, hr, hv, hH0⟩ := hd
  obtain ⟨C, hC⟩ : ∃ C, (digCells s rest (t.length : Int)).toArray = C := ⟨_, rfl⟩
  have hCs : C.size = 73 := by rw [← hC]; simpa using dig_length s rest _ hr
  have hC1 : C.all (·.oneCell') = true := by rw [← hC]; exact all_oneCell_toArray (dig_one_cell _ _ _)
  obtain ⟨W1, hW1⟩ : ∃ W1, w.alloc (.cells z32 33) = W1 := ⟨_, rfl⟩
  obtain ⟨W2, hW2⟩ : ∃ W2, W1.alloc (.cells C 174) = W2 := ⟨_, rfl⟩
  have hrow : W1.heap[g]? = some (.cells C 174 (0, 0)) := by rw [← hW1, ← hC]; exact hH0.alloc _
  have hB1 : W1.heap[w.heap.size]? = some (.cells z32 33 (0, 0)) := by rw [← hW1]; exact heap_alloc_new _ _
  have hB2 : W2.heap[w.heap.size]? = some (.cells z32 33 (0, 0)) := by rw [← hW2]; exact heap_up _ _ _ _ hB1
  have hs1 : W1.heap.size = w.heap.size + 1 := by rw [← hW1]; simp
  have hD2 : Dig W2 W1.heap.size t := by
    rw [← hW2, ← hC]
    exact ⟨s, rest, hr, hv, Holds.new W1 _ _⟩
  have hb2 : Below w.heap.size w W2 := by rw [← hW2, ← hW1]; exact ((Below.refl _ _).alloc (Nat.le_refl _) _).alloc (by simp) _
  have hs2 : W2.heap.size = w.heap.size + 2 := by rw [← hW2]; simp [hs1]
  have hzs : (zeroDig).size = C.size := by rw [hCs]; rfl
  rw [hs1] at hD2
  have hW1' := hid hW1
  have hW2' := hid hW2
  have hB2' := hid hB2
  have hD2' := hid hD2
  have hb2' := hid hb2
  have hs1' := hid hs1
  clear hs1 hW1 hW2 hB1 hB2 hD2 hb2 hH0 hC hv
  go_enter Try.func85, Try.ntmps85
  go_wp2_with (first
    | ((with_reducible refine at_slot (some 2) ?_); refine wpList_run rfl (.pointer (some ⟨w.heap.size, 0, none⟩)) (w.alloc (.cells z32 33)) (by kernel_rfl) ?_; rw [hW1'.out])
    | ((with_reducible refine at_slot (some 9) ?_); refine wpList_load_row rfl 174 (.tmp 8) rfl g rfl 174 C (0, 0) _ (by exact hrow) Try.underlying174 rfl (by rw [Try.sizeDig, hCs]) ?_)
    | ((with_reducible refine at_slot (some 3) ?_); refine wpList_run rfl (.pointer (some ⟨W1.heap.size, 0, none⟩)) (W1.alloc (.cells zeroDig 174)) (by kernel_rfl) ?_)
    | ((with_reducible refine at_slot none ?_); refine wpList_store_row rfl 174 (.tmp 3) (.tmp 9) rfl W1.heap.size C rfl rfl 174 zeroDig (heap_alloc_new _ _) (by rw [Try.sizeDig, hCs]) (by exact hzs) (by exact hC1) ?_; rw [World.setRow_alloc_new, hW2'.out, hs1'.out]))
  refine (finish_any (w.heap.size + 1) t W2 hD2'.out hn).mono ?_
  rintro e w4 ⟨rfl, hG⟩
  have hB4 := (hG.block w.heap.size (by omega) (fun e => by have := Option.some.inj e; omega)).trans hB2'.out
  obtain ⟨H, hH⟩ : ∃ H, (byteCells (Sha.sha t)).toArray = H := ⟨_, rfl⟩
  have hHs : H.size = 32 := by rw [← hH]; exact sha_size _
  have hH1 : H.all (·.oneCell') = true := by rw [← hH]; exact all_oneCell_toArray (byteCells_one _)
  rw [hH]
  have hH' := hid hH
  clear hH
  go_wp2_with (refine wpList_store_row rfl 33 (.tmp 2) (.tmp 10) rfl w.heap.size H rfl rfl 33 z32 (by exact hB4) (by rw [Try.infoHash, hHs]) (by rw [hHs]; rfl) (by exact hH1) ?_)
  have hs0 := setRow_heap w4 w.heap.size z32 H 33 (0, 0) hB4
  refine bodyPost_ret (v := .agg H) (results_cell_row rfl _ _ w.heap.size 33 H (0, 0) _ rfl hs0 Try.underlying33 rfl (by rw [Try.infoHash, hHs])) rfl ⟨?_, ?_⟩
  · rw [← hH'.out]
    rfl
  · have hb := below_of_only hb2'.out hG (by omega) (by omega)
    exact ⟨hb.os, hb.tape, hb.output, by have := hb.size; simpa using this, fun k hk => (setRow_other w4 _ _ _ (by omega)).trans (hb.block k hk)⟩

end Go.Proofs.Ytpjfhbmegabafaa
