/- Digest.finish. -/
import Derived.Test.YtenfhmpjhbpkpaaShaDig
import Derived.Test.YtenfhmpjhbpkpaaTools
import Derived.Deep.WholeRow
import Derived.Laws.Tables
namespace Go.Proofs.Ytenfhmpjhbpkpaa
open Go.RowKit

attribute [local irreducible] Sha.compress Sha.blocks

/-- What of a body stands behind its first n parts. -/
def dropSeq : Nat → Code → Code
  | 0, c => c
  | n + 1, .seq _ c => dropSeq n c
  | _, c => c

def z32 : Array Value := Array.replicate 32 (.int .u8 0)

theorem Try.infoHash : (Try.prog.info? 28).map (·.size) = some 32 := by kernel_rfl

theorem byte_of (n i : Nat) (hi : i < 8) : (n : Int) * 8 / 2 ^ (56 - 8 * i) % 256 = ((UInt8.ofNat (8 * n / 256 ^ (8 - 1 - i))).toNat : Int) := by
  have e : (2 : Int) ^ (56 - 8 * i) = ((256 ^ (8 - 1 - i) : Nat) : Int) := by
    rw [show 56 - 8 * i = 8 * (8 - 1 - i) by omega, Int.pow_mul]
    rw [Int.natCast_pow]
    rfl
  rw [e, UInt8.toNat_ofNat', Int.natCast_emod, Int.natCast_ediv, Int.natCast_mul, Int.mul_comm]
  rfl

/-- The cells of a hash of which i words are written. -/
def hcells (l : List (BitVec 32)) (i : Nat) : List Value := byteCells ((l.take i).flatMap Sha.bytes) ++ List.replicate (32 - 4 * i) (.int .u8 0)

theorem bytes_length (x : BitVec 32) : (Sha.bytes x).length = 4 := by simp [Sha.bytes, Sha.be]

theorem flat_length (l : List (BitVec 32)) : (l.flatMap Sha.bytes).length = 4 * l.length := by
  induction l with
  | nil => rfl
  | cons x l ih => rw [List.flatMap_cons, List.length_append, bytes_length, ih, List.length_cons]; omega

theorem hcells_length (l : List (BitVec 32)) (i : Nat) (hl : l.length = 8) (hi : i ≤ 8) : (hcells l i).length = 32 := by
  unfold hcells
  rw [List.length_append, byteCells_length, flat_length, List.length_take, List.length_replicate, hl]
  omega

theorem word_byte (x : BitVec 32) (k : Nat) (hk : k < 4) : u x / 2 ^ (24 - 8 * k) % 256 = ((UInt8.ofNat (x.toNat / 256 ^ (4 - 1 - k))).toNat : Int) := by
  have e : (2 : Int) ^ (24 - 8 * k) = ((256 ^ (4 - 1 - k) : Nat) : Int) := by
    rw [show 24 - 8 * k = 8 * (4 - 1 - k) by omega, Int.pow_mul]
    rw [Int.natCast_pow]
    rfl
  unfold u
  rw [e, UInt8.toNat_ofNat', Int.natCast_emod, Int.natCast_ediv]
  rfl

theorem word_cells (x : BitVec 32) : byteCells (Sha.bytes x) = [.int .u8 (u x / 16777216 % 256), .int .u8 (u x / 65536 % 256), .int .u8 (u x / 256 % 256), .int .u8 (u x % 256)] := by
  have h0 : u x / 16777216 % 256 = _ := word_byte x 0 (by omega)
  have h1 : u x / 65536 % 256 = _ := word_byte x 1 (by omega)
  have h2 : u x / 256 % 256 = _ := word_byte x 2 (by omega)
  have h3 := word_byte x 3 (by omega)
  have h3' : u x % 256 = ((UInt8.ofNat (x.toNat / 256 ^ (4 - 1 - 3))).toNat : Int) := by
    rw [← h3]
    simp
  have e : byteCells (Sha.bytes x) = [.int .u8 ((UInt8.ofNat (x.toNat / 256 ^ (4 - 1 - 0))).toNat : Int), .int .u8 ((UInt8.ofNat (x.toNat / 256 ^ (4 - 1 - 1))).toNat : Int), .int .u8 ((UInt8.ofNat (x.toNat / 256 ^ (4 - 1 - 2))).toNat : Int), .int .u8 ((UInt8.ofNat (x.toNat / 256 ^ (4 - 1 - 3))).toNat : Int)] := rfl
  rw [e, ← h0, ← h1, ← h2, ← h3']

theorem hcells_next (l : List (BitVec 32)) (i : Nat) (hl : l.length = 8) (hi : i < 8) : ((((hcells l i).set (4 * i) (.int .u8 (u (l.getD i 0) / 16777216 % 256))).set (4 * i + 1) (.int .u8 (u (l.getD i 0) / 65536 % 256))).set (4 * i + 2) (.int .u8 (u (l.getD i 0) / 256 % 256))).set (4 * i + 3) (.int .u8 (u (l.getD i 0) % 256)) = hcells l (i + 1) := by
  have h1 : (byteCells ((l.take i).flatMap Sha.bytes)).length = 4 * i := by
    rw [byteCells_length, flat_length, List.length_take, hl]
    omega
  have hi' : i < l.length := by omega
  have e1 : l.getD i 0 = l[i] := by simp [hi']
  have e2 : 32 - 4 * i = (32 - 4 * (i + 1)) + 1 + 1 + 1 + 1 := by omega
  unfold hcells
  rw [List.take_succ_eq_append_getElem hi', List.flatMap_append, List.flatMap_cons, List.flatMap_nil, List.append_nil, e1]
  have e3 : byteCells ((l.take i).flatMap Sha.bytes ++ Sha.bytes l[i]) = byteCells ((l.take i).flatMap Sha.bytes) ++ byteCells (Sha.bytes l[i]) := by
    unfold byteCells
    rw [List.map_append]
  rw [e3, word_cells, e2, List.replicate_succ, List.replicate_succ, List.replicate_succ, List.replicate_succ]
  rw [List.set_append_right _ _ (by omega), h1, Nat.sub_self, List.set_cons_zero, List.set_append_right _ _ (by omega), h1, Nat.add_sub_cancel_left, List.set_append_right _ _ (by omega), h1, Nat.add_sub_cancel_left, List.set_append_right _ _ (by omega), h1, Nat.add_sub_cancel_left]
  simp

theorem hcells_one (l : List (BitVec 32)) (i : Nat) : ∀ v ∈ hcells l i, v.oneCell' = true := by
  intro v hv
  rcases List.mem_append.1 hv with h | h
  · obtain ⟨x, _, rfl⟩ := List.mem_map.1 h
    rfl
  · rw [List.eq_of_mem_replicate h]
    rfl

theorem hcells_all (s : Sha.S8) : hcells s.list 8 = byteCells s.bytes := by
  unfold hcells Sha.S8.bytes Sha.S8.list
  simp [List.append_assoc]

theorem words_at (s : Sha.S8) : ∀ j : Nat, j < 8 → ∀ w, (Instr.index 66 (.agg (wordCells s.list).toArray) (.int .i64 (j : Int))).run Try.prog w = .ok (.int .u32 (u (s.list.getD j 0))) w
  | 0, _, _ => by kernel_rfl
  | 1, _, _ => by kernel_rfl
  | 2, _, _ => by kernel_rfl
  | 3, _, _ => by kernel_rfl
  | 4, _, _ => by kernel_rfl
  | 5, _, _ => by kernel_rfl
  | 6, _, _ => by kernel_rfl
  | 7, _, _ => by kernel_rfl
  | j + 8, h, _ => by omega

noncomputable def finTail : Code := dropSeq 6 ((Try.f59.body).getD .skip)
noncomputable def finMid : Code := dropSeq 2 ((Try.f59.body).getD .skip)

set_option maxRecDepth 100000 in
set_option maxHeartbeats 2000000 in
theorem fin_tail {q1_ q3_ q4_ q5_ q6_ q7_ q8_ q9_ q10_ q11_ q12_ q13_ q14_ q15_ q16_ q17_ q18_ q19_ q20_ q21_ q22_ q23_ q24_ q25_ q26_ q27_ q28_ q29_ q30_ q31_ q32_ q33_ q34_ q35_ q36_ q37_ q38_ q39_ q40_ q41_ q42_ q43_ q44_ q45_ q46_ q47_ q48_ q49_ q50_ q51_ q52_ q53_ q54_ q55_ q56_ q57_ q58_ q59_ q60_ q61_ q62_ q63_ q64_ q65_ q66_ q67_ q68_ q69_ q70_ q71_ q72_ q73_ q74_ q75_ q76_ q77_ q78_ q79_ q80_ q81_ q82_ q83_ q84_ q85_ q86_ q87_ q88_ q89_ q90_ q91_ q92_ q93_ q94_ q95_ q96_ q97_ q98_ q99_ q100_ q101_ q102_ q103_ q104_ q105_ q106_ q107_ q108_ q109_ q110_ q111_ : Value} (g B : Nat) (n : Nat) (S : Sha.S8) (R : List UInt8) (hR : R.length = 64) (hn : n < 1152921504606846976) {w : World} (hH : Holds w g 91 (digCells S R (n : Int)))
    (hB : w.heap[B]? = some (.cells z32 28 (0, 0))) (hgB : g ≠ B) {Rr : Ending → World → Prop}
    (hQ : ∀ w', Turns w w' g (some B) → Rr (.returned (.agg (byteCells (Sha.compress S (Sha.laid R (Sha.be 8 (8 * n)) 56)).bytes).toArray)) w') :
    Code.wp Try.prog finTail (bodyPost Try.prog Try.f59 Rr) ⟨#[
    .pointer (some ⟨g, 0, none⟩), q1_, .pointer (some ⟨B, 0, none⟩), q3_, q4_, q5_, q6_, q7_, q8_, q9_, q10_, q11_, q12_, q13_, q14_, q15_, q16_, q17_, q18_, q19_, q20_, q21_, q22_, 
    q23_, q24_, q25_, q26_, q27_, q28_, q29_, q30_, q31_, q32_, q33_, q34_, q35_, q36_, q37_, q38_, q39_, q40_, q41_, q42_, q43_, q44_, q45_, q46_, q47_, q48_, q49_, q50_, q51_, q52_, 
    q53_, q54_, q55_, q56_, q57_, q58_, q59_, q60_, q61_, q62_, q63_, q64_, q65_, q66_, q67_, q68_, q69_, q70_, q71_, q72_, q73_, q74_, q75_, q76_, q77_, q78_, q79_, q80_, q81_, q82_, 
    q83_, q84_, q85_, q86_, q87_, q88_, q89_, q90_, q91_, q92_, q93_, q94_, q95_, q96_, q97_, q98_, q99_, q100_, q101_, q102_, q103_, q104_, q105_, q106_, q107_, q108_, q109_, q110_, 
    q111_], []⟩ w := by
  conv => arg 2; whnf
  have cl := (hH.cell 72).trans (dig_len S R _ hR)
  have hQ' := hid hQ
  have hB' := hid hB
  clear hQ hB
  obtain ⟨L, hL⟩ : ∃ L, Sha.be 8 (8 * n) = L := ⟨_, rfl⟩
  have hL' := hid hL
  go_wp2_with fail
  go_loopw [53] (fun v wr => ∃ i : Nat, i ≤ 8 ∧ v = .int .i64 (i : Int) ∧ Holds wr g 91 (digCells S (Sha.laid R (L.take i) 56) (n : Int)) ∧ w.grownBy wr (some g)) (fun v _ => 8 - (intOf v).toNat)
  case atStart => exact ⟨0, by omega, rfl, by rw [List.take_zero, Sha.laid_nil]; exact hH, World.grownBy.refl _ _⟩
  case round =>
    obtain ⟨i, hi, rfl, hW, hG⟩ := hrel
    by_cases hlt : i < 8
    · have hW' := hid hW
      have hG' := hid hG
      have hr1 : (Sha.laid R (L.take i) 56).length = 64 := by
        rw [Sha.laid_length, hR]
        have : (L.take i).length ≤ 8 := by rw [List.length_take]; omega
        omega
      have c0 := hW.cell (8 + (56 + i))
      have cf := hW.frozen (8 + (56 + i))
      obtain ⟨v0, hv0⟩ : ∃ v0, (digCells S (Sha.laid R (L.take i) 56) (n : Int))[8 + (56 + i)]? = some v0 := ⟨_, List.getElem?_eq_getElem (by rw [dig_length S _ _ hr1]; omega)⟩
      rw [hv0] at c0
      clear hW hG hv0 hL cl hH
      have s1 := IntWalk.i64_in (56 + (i : Int)) (by omega)
      have s2 := IntWalk.i64_in (8 * (i : Int)) (by omega)
      have s3 := IntWalk.i64_in (56 - 8 * (i : Int)) (by omega)
      have p1 : 0 ≤ 56 + (i : Int) := by omega
      have p2 : 56 + (i : Int) < 64 := by omega
      have p3 : (56 + (i : Int)).toNat = 56 + i := by omega
      have p4 : 0 ≤ 56 - 8 * (i : Int) := by omega
      have p5 : (56 - 8 * (i : Int)).toNat = 56 - 8 * i := by omega
      have p6 : 8 * (i : Int) ≤ 56 := by omega
      go_wp2_with fail
      go_still_tail 12, (by kernel_rfl)
      change wpList _ _ _ _ _ wr.drew
      clear s1 s2 s3 p3 p5
      go_wp2
      refine ⟨⟨i + 1, by omega, rfl, ?_, only_drew (only_setCell hG'.out _ _)⟩, ?_⟩
      · have hl8 : (L.take i).length = i := by
          rw [List.length_take, ← hL'.out, Sha.beL8_length]
          omega
        have h := (hW'.out.set (8 + (56 + i)) (.int .u8 ((n : Int) * 8 / 2 ^ (56 - 8 * i) % 256))).drew
        rw [byte_of n i hlt, dig_one _ _ _ _ _ hr1 (by omega)] at h
        have e := Sha.laid_snoc R (L.take i) (UInt8.ofNat (8 * n / 256 ^ (8 - 1 - i))) 56 (by rw [hl8, hR]; omega)
        rw [hl8] at e
        rw [e, ← hL'.out, ← Sha.be_take 8 (8 * n) i hlt, hL'.out] at h
        rw [byte_of n i hlt]
        exact h
      · simp [intOf]
        omega
    · obtain rfl : i = 8 := by omega
      have hl8 : L.length = 8 := by rw [← hL, Sha.beL8_length]
      rw [List.take_of_length_le (by omega)] at hW
      have hr1 : (Sha.laid R L 56).length = 64 := by
        rw [Sha.laid_length, hR]
        omega
      have hBg := hid (hG.block B)
      have hlt0 : w.heap.size ≤ wr.heap.size := hG.size
      have hW' := hid hW
      have hG' := hid hG
      clear hW hG hL cl hH
      go_wp2_with fail
      go_still_tail 6, (by kernel_rfl)
      change wpList _ _ _ _ _ wr.drew
      go_wp2_with fail
      refine (mix_any g _ S (Sha.laid R L 56) _ hr1 _ hW'.out.drew).mono ?_
      rintro e w2 ⟨rfl, hH2, hG2⟩
      generalize hS2 : Sha.compress S (Sha.laid R L 56) = S2 at *
      have hS2' := hid hS2
      clear hS2
      have hH2' := hid hH2
      have hG2' := hid hG2
      obtain ⟨W3, hW3⟩ : ∃ W3, w2.alloc (.cells z32 28) = W3 := ⟨_, rfl⟩
      have hH3 : Holds W3 g 91 (digCells S2 (Sha.laid R L 56) (n : Int)) := by rw [← hW3]; exact hH2.alloc _
      have hr3 : W3.rangeAt g 0 (wordCells S2.list) := by
        refine hH3.range 0 _ fun j hj => ?_
        rw [dig_form, List.append_assoc, Nat.zero_add, List.getElem?_append_left hj]
      obtain ⟨A8, hA8⟩ : ∃ A8, (wordCells S2.list).toArray = A8 := ⟨_, rfl⟩
      clear hH2 hG2
      go_wp2_with (first
        | ((with_reducible refine at_slot (some 6) ?_); refine wpList_run rfl (.pointer (some ⟨w2.heap.size, 0, none⟩)) (w2.alloc (.cells z32 28)) (by kernel_rfl) ?_; rw [hW3])
        | ((with_reducible refine at_slot (some 79) ?_); refine wpList_load_mid rfl 66 (.tmp 78) rfl g 0 rfl (wordCells S2.list) _ (by exact hr3) Try.underlying66 rfl (by exact Try.sizeW8) ?_; rw [hA8]))
      have ix := words_at S2
      rw [hA8] at ix
      have hBH : Holds W3 w2.heap.size 28 (hcells S2.list 0) := by rw [← hW3]; exact Holds.new w2 _ z32
      have hlt3 : w2.heap.size < W3.heap.size := by rw [← hW3]; simp
      have hlt2 : wr.heap.size ≤ w2.heap.size := hG2'.out.size
      have hG3 : w2.grownBy W3 none := by rw [← hW3]; exact only_of_below ((Below.refl _ _).alloc (Nat.le_refl _) _) _
      have hG3' := hid hG3
      have hsl : S2.list.length = 8 := rfl
      have ix' := hid ix
      clear hG3 ix hH3 hr3 hA8 hW3
      revert ix' hBH hlt3 hsl
      generalize hSL : S2.list = sl
      intro hBH hlt3 hsl ix'
      have hSL' := hid hSL
      clear hSL
      generalize hBHn : w2.heap.size = BH at *
      have hBHn' := hid hBHn
      clear hBHn
      go_loopw [80] (fun v wq => ∃ i : Nat, i ≤ 8 ∧ v = .int .i64 (i : Int) ∧ Holds wq BH 28 (hcells sl i) ∧ W3.grownBy wq (some BH)) (fun v _ => 8 - (intOf v).toNat)
      case atStart => exact ⟨0, by omega, rfl, hBH, World.grownBy.refl _ _⟩
      case round =>
        clear hlt hi
        obtain ⟨i, hi, rfl, hW, hG⟩ := hrel
        by_cases hlt : i < 8
        · have ixi := ix'.out i hlt
          have hcl := hcells_length sl i hsl hi
          obtain ⟨v0, c0⟩ : ∃ v, wr.cell? ⟨BH, 4 * i, none⟩ = some v := ⟨_, (hW.cell _).trans (List.getElem?_eq_getElem (by omega))⟩
          obtain ⟨v1, c1⟩ : ∃ v, wr.cell? ⟨BH, 4 * i + 1, none⟩ = some v := ⟨_, (hW.cell _).trans (List.getElem?_eq_getElem (by omega))⟩
          obtain ⟨v2, c2⟩ : ∃ v, wr.cell? ⟨BH, 4 * i + 2, none⟩ = some v := ⟨_, (hW.cell _).trans (List.getElem?_eq_getElem (by omega))⟩
          obtain ⟨v3, c3⟩ : ∃ v, wr.cell? ⟨BH, 4 * i + 3, none⟩ = some v := ⟨_, (hW.cell _).trans (List.getElem?_eq_getElem (by omega))⟩
          have f0 := hW.frozen (4 * i)
          have f1 := hW.frozen (4 * i + 1)
          have f2 := hW.frozen (4 * i + 2)
          have f3 := hW.frozen (4 * i + 3)
          have hn4 := hcells_next sl i hsl hlt
          generalize sl.getD i 0 = X at *
          have hn4' := hid hn4
          have hW' := hid hW
          have hG' := hid hG
          clear hn4 hW hG hcl hBH
          have s0 := IntWalk.i64_in (4 * (i : Int)) (by omega)
          have s1 := IntWalk.i64_in (4 * (i : Int) + 1) (by omega)
          have s2 := IntWalk.i64_in (4 * (i : Int) + 2) (by omega)
          have s3 := IntWalk.i64_in (4 * (i : Int) + 3) (by omega)
          have n0 : (4 * (i : Int)).toNat = 4 * i := by omega
          have n1 : (4 * (i : Int) + 1).toNat = 4 * i + 1 := by omega
          have n2 : (4 * (i : Int) + 2).toNat = 4 * i + 2 := by omega
          have n3 : (4 * (i : Int) + 3).toNat = 4 * i + 3 := by omega
          go_wp2
          refine ⟨⟨i + 1, by omega, rfl, ?_, ?_⟩, ?_⟩
          · rw [← hn4'.out]
            exact (((hW'.out.set (4 * i) _).set (4 * i + 1) _).set (4 * i + 2) _).set (4 * i + 3) _
          · exact only_setCell (only_setCell (only_setCell (only_setCell hG'.out _ _) _ _) _ _) _ _
          · simp [intOf]
            omega
        · obtain rfl : i = 8 := by omega
          have hcl := hcells_length sl 8 hsl hi
          obtain ⟨H, hH8⟩ : ∃ H, (hcells sl 8).toArray = H := ⟨_, rfl⟩
          have hHs : H.size = 32 := by rw [← hH8]; simpa using hcl
          have hH1 : H.all (·.oneCell') = true := by
            rw [← hH8]
            exact all_oneCell_toArray (hcells_one sl 8)
          have hrow : wr.heap[BH]? = some (.cells H 28 (0, 0)) := by rw [← hH8]; exact hW
          have hBlt : B < w.heap.size := by
            rcases Nat.lt_or_ge B w.heap.size with h | h
            · exact h
            · have := hB'.out
              rw [Array.getElem?_eq_none h] at this
              cases this
          have hBw : BH = w2.heap.size := hBHn'.out.symm
          have hne : some B ≠ some g := by
            intro e
            exact hgB (Option.some.inj e).symm
          have hneH : some B ≠ some BH := by
            intro e
            have := Option.some.inj e
            omega
          have r1 := (hBg.out hBlt hne).trans hB'.out
          have r2 := (hG2'.out.block B (by show B < _; exact Nat.lt_of_lt_of_le hBlt hlt0) hne).trans r1
          have r3 := (hG3'.out.block B (by omega) (by simp)).trans r2
          have r4 := (hG.block B (by have := hG3'.out.size; omega) hneH).trans r3
          have hT0 := only_trans (only_drew hG'.out) hG2'.out
          have hG4 := hid hG
          have hH8' := hid hH8
          clear hG hW hH8 r1 r2 r3 hcl hlt
          go_wp2_with (first
            | ((with_reducible refine at_slot (some 111) ?_); refine wpList_load_row rfl 28 (.tmp 6) rfl BH rfl 28 H (0, 0) _ (by exact hrow) Try.underlying28 rfl (by rw [Try.infoHash, hHs]) ?_)
            | ((with_reducible refine at_slot none ?_); refine wpList_store_row rfl 28 (.tmp 2) (.tmp 111) rfl B H rfl rfl 28 z32 (by exact r4) (by rw [Try.infoHash, hHs]) (by rw [hHs]; rfl) (by exact hH1) ?_))
          have hs0 := setRow_heap wr B z32 H 28 (0, 0) r4
          refine bodyPost_ret (v := .agg H) (results_cell_row rfl _ _ B 28 H (0, 0) _ rfl hs0 Try.underlying28 rfl (by rw [Try.infoHash, hHs])) rfl ?_
          have hfin : H = (byteCells (Sha.compress S (Sha.laid R (Sha.be 8 (8 * n)) 56)).bytes).toArray := by
            rw [hL'.out, hS2'.out, ← hH8'.out, ← hSL'.out, hcells_all]
          rw [hfin]
          refine hQ'.out _ ?_
          rw [← hfin]
          refine ⟨hG4.out.os.trans (hG3'.out.os.trans hT0.os), hG4.out.tape.trans (hG3'.out.tape.trans hT0.tape), hG4.out.output.trans (hG3'.out.output.trans hT0.output), ?_, ?_⟩
          · have h1 := hG4.out.size
            have h2 := hG3'.out.size
            have h3 := hT0.size
            simp
            omega
          · intro k hk hkg hkB
            have h3 := hT0.size
            have h2 := hG3'.out.size
            have hkH : some k ≠ some BH := by
              intro e
              have := Option.some.inj e
              omega
            refine (setRow_other wr _ _ _ (fun e => hkB (by rw [e]))).trans ((hG4.out.block k (by omega) hkH).trans ((hG3'.out.block k (by omega) (by simp)).trans (hT0.block k hk (fun e => hkg (Option.some.inj e)))))

end Go.Proofs.Ytenfhmpjhbpkpaa
