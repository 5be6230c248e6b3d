/- A digest's bytes, one by one; pieces of a text. No function of the program is named here.
   The padding that the reference's Sha makes. Made by tools/regions.py.
   The reference's Sha: what it does behind the padding. Made by tools/mkref.py.
   The reference's Sha, whole. Made by tools/mkref.py. -/
import Derived.Test.YtpjfhbmegabafaaLBlkAll
import Derived.Test.YtpjfhbmegabafaaLShaFin
import Derived.Test.YtpjfhbmegabafaaLBlkBase
import Derived.Deep.RegionHeld3
import Derived.StillTailTactics
namespace Go.Proofs.Ytpjfhbmegabafaa
open Go.RowKit
attribute [local irreducible] Sha.compress Sha.blocks Sha.sha

theorem extract_list (x : ByteArray) (a b : Nat) : (x.extract a b).data.toList = (x.data.toList.drop a).take (b - a) := by
  rw [ByteArray.data_extract, Array.toList_extract, List.extract_eq_take_drop]

theorem extract_size (x : ByteArray) (a n : Nat) (h : a + n ≤ x.size) : (x.extract a (a + n)).size = n := by
  rw [ByteArray.size_extract]
  omega

/-- The cells of a hash of which i bytes are written. -/
def outC (t : List UInt8) (i : Nat) : List Value := byteCells (t.take i) ++ List.replicate (32 - i) (.int .u8 0)

theorem outC_get (t : List UInt8) (ht : t.length = 32) (i : Nat) (hi : i < 32) : (outC t i)[i]? = some (.int .u8 0) := by
  unfold outC
  have hl : (byteCells (t.take i)).length = i := by rw [byteCells_length, List.length_take]; omega
  rw [List.getElem?_append_right (by omega), hl, Nat.sub_self, List.getElem?_replicate, if_pos (by omega)]

theorem outC_set (t : List UInt8) (ht : t.length = 32) (i : Nat) (hi : i < 32) : (outC t i).set i (.int .u8 ((t.getD i 0).toNat : Int)) = outC t (i + 1) := by
  have hl : (byteCells (t.take i)).length = i := by rw [byteCells_length, List.length_take]; omega
  have hit : i < t.length := by omega
  unfold outC
  rw [List.set_append_right _ _ (by omega), hl, Nat.sub_self, show 32 - i = (32 - (i + 1)) + 1 by omega, List.replicate_succ, List.set_cons_zero, List.take_succ_eq_append_getElem hit]
  have e : t.getD i 0 = t[i] := by simp [hit]
  have e2 : byteCells (t.take i ++ [t[i]]) = byteCells (t.take i) ++ [.int .u8 (t[i].toNat : Int)] := by
    unfold byteCells
    rw [List.map_append]
    rfl
  rw [e, e2, List.append_assoc, List.singleton_append]

theorem outC_zero (t : List UInt8) : outC t 0 = z32.toList := by
  simp [outC, byteCells, z32]

theorem outC_all (t : List UInt8) (ht : t.length = 32) : outC t 32 = byteCells t := by
  unfold outC
  rw [List.take_of_length_le (by omega)]
  simp

theorem s8_bytes_length (s : Sha.S8) : s.bytes.length = 32 := by simp [Sha.S8.bytes, bytes_length]

theorem four {k : Nat} (h : k < 4) : k = 0 ∨ k = 1 ∨ k = 2 ∨ k = 3 := by omega

theorem s8_byte (s : Sha.S8) (a b : Nat) (ha : a < 8) (hb : b < 4) : u (s.list.getD a 0) / 2 ^ (24 - 8 * b) % 256 = ((s.bytes.getD (4 * a + b) 0).toNat : Int) := by
  rw [word_byte _ b hb]
  rcases eight ha with rfl | rfl | rfl | rfl | rfl | rfl | rfl | rfl <;> rcases four hb with rfl | rfl | rfl | rfl <;> rfl

/-- A text that is padded: what stands behind its whole blocks. -/
def padRest (x : ByteArray) : ByteArray := x.extract (64 * (x.size / 64)) x.size ++ ⟨#[128]⟩

theorem padRest_size (x : ByteArray) : (padRest x).size = x.size % 64 + 1 := by
  unfold padRest
  rw [ByteArray.size_append, ByteArray.size_extract]
  have : (ByteArray.mk #[128]).size = 1 := rfl
  omega

def padAll (x : ByteArray) : ByteArray := padRest x ++ zeroS ((120 - (x.size % 64 + 1) % 64) % 64) ++ be 8 (x.size * 8)

theorem beL_be (n k : Nat) : Sha.be n k = beL n k := rfl

theorem pad_is (x : ByteArray) : Sha.pad x.data.toList = x.data.toList.take (64 * (x.size / 64)) ++ (padAll x).data.toList := by
  have hl : x.data.toList.length = x.size := data_length x
  unfold Sha.pad padAll padRest
  rw [ByteArray.data_append, ByteArray.data_append, ByteArray.data_append, Array.toList_append, Array.toList_append, Array.toList_append, extract_list, hl]
  rw [List.take_of_length_le (l := x.data.toList.drop (64 * (x.size / 64))) (by rw [List.length_drop, hl]; omega)]
  have e : (120 - (x.size + 1) % 64) % 64 = (120 - (x.size % 64 + 1) % 64) % 64 := by omega
  rw [e, Nat.mul_comm 8 x.size, beL_be]
  simp only [← List.append_assoc]
  rw [List.take_append_drop]
  rfl

theorem padAll_size (x : ByteArray) : ∃ p, p ≤ 3 ∧ (padAll x).size = 64 * p ∧ (Sha.pad x.data.toList).length / 64 = x.size / 64 + p := by
  have h : (padAll x).size = x.size % 64 + 1 + (120 - (x.size % 64 + 1) % 64) % 64 + 8 := by
    unfold padAll
    rw [ByteArray.size_append, ByteArray.size_append, padRest_size, zeroS_size, be_size]
  have hl : x.data.toList.length = x.size := data_length x
  refine ⟨(padAll x).size / 64, by omega, by omega, ?_⟩
  rw [pad_is, List.length_append, List.length_take, hl, data_length]
  omega

/-- One block more of a padded text. -/
theorem pad_block (x : ByteArray) (j : Nat) : Sha.blocks (Sha.pad x.data.toList) (x.size / 64 + (j + 1)) = Sha.compress (Sha.blocks (Sha.pad x.data.toList) (x.size / 64 + j)) ((padAll x).extract (64 * j) (64 * j + 64)).data.toList := by
  have hl : x.data.toList.length = x.size := data_length x
  rw [← Nat.add_assoc, Sha.blocks_succ, extract_list, Nat.add_sub_cancel_left]
  congr 2
  have e : 64 * (x.size / 64 + j) = (x.data.toList.take (64 * (x.size / 64))).length + 64 * j := by
    rw [List.length_take, hl]
    omega
  rw [e]
  conv => lhs; rw [pad_is, ← List.drop_drop, List.drop_left]

theorem pad_first (x : ByteArray) : Sha.blocks x.data.toList (x.size / 64) = Sha.blocks (Sha.pad x.data.toList) (x.size / 64) := by
  have hl : x.data.toList.length = x.size := data_length x
  unfold Sha.pad
  rw [List.append_assoc, List.append_assoc, Sha.blocks_more _ _ _ (by rw [hl]; omega)]

theorem text_block (x : ByteArray) (j : Nat) : Sha.blocks x.data.toList (j + 1) = Sha.compress (Sha.blocks x.data.toList j) (x.extract (64 * j) (64 * j + 64)).data.toList := by
  rw [Sha.blocks_succ, extract_list, Nat.add_sub_cancel_left]

end Go.Proofs.Ytpjfhbmegabafaa
namespace Go.Proofs.Ytpjfhbmegabafaa
open Go.RowKit
open Go.Lib (strCells strCells_length strCells_oneCell)

/-- 'make([]byte, n)', written out. -/
theorem make_run (n : Nat) (hn : n ≤ 1000000) (L : Int) (hL : L = n) (w : World) : (Instr.makeSlice 51 (.int .i64 L) (.int .i64 L)).run Try.prog w =
    .ok (.slice (some ⟨w.heap.size, 0, none⟩) n n) (w.alloc (.cells (strCells (zeroS n)).toArray 5)) := by
  subst hL
  obtain ⟨i, hi, hz0, hz1, hz2⟩ := info_parts Try.infoU8
  have h := run_make (P := Try.prog) w 51 5 i (.int .u8 0) Try.underlying51 hi hz0 .i64 .i64 (n : Int) (n : Int) (by omega) (by omega) (by rw [hz2]; omega) (by omega)
  rw [h]
  have e : madeCells (Value.int .u8 0).cells ((n : Int).toNat * i.size) = (strCells (zeroS n)).toArray := by
    rw [zeroS_cells, hz1, Int.toNat_natCast, Nat.mul_one]
    have := toList_madeCells_one (.int .u8 0) n
    rw [← this]
    rfl
  rw [e]
  rfl

/-- Zeros as a text. -/
theorem zeros_run (n : Nat) (w : World) (g : Nat) (h : Holds w g 5 (strCells (zeroS n))) : (convert 51 9 (.slice (some ⟨g, 0, none⟩) n n)).run Try.prog w = .ok (.string (zeroS n)) w :=
  run_convert_block (P := Try.prog) (w := w) (e := 5) (n := n) (c := n) 51 9 Try.underlying51 Try.underlying5 Try.underlying9 (zeroS_size n).symm h rfl


/-- The region of this number. -/
def rshaFind (n : Nat) : Code → Option Code
  | .region i ops d => if i = n then some (.region i ops d) else none
  | .loop c => rshaFind n c
  | .block _ c => rshaFind n c
  | .scope c => rshaFind n c
  | .seq a b => match rshaFind n a with
    | some c => some c
    | none => rshaFind n b
  | .cond _ a b => match rshaFind n a with
    | some c => some c
    | none => rshaFind n b
  | _ => none
noncomputable def rshaReg (n : Nat) : Code := ((Try.f64.body.bind (rshaFind n)).getD .skip)

set_option maxRecDepth 100000 in
set_option maxHeartbeats 2000000 in
theorem rshaPad {q1_ q2_ q3_ q4_ q5_ q7_ q8_ q9_ q10_ q11_ q12_ q13_ q14_ q15_ q16_ q17_ q18_ q19_ q20_ q21_ q22_ q23_ q24_ q25_ q26_ q27_ q28_ q29_ q30_ q31_ q32_ q33_ q34_ q35_ q36_ q37_ q38_ q39_ q40_ q41_ q42_ q43_ q44_ q45_ q46_ q47_ q48_ q49_ q50_ q51_ q52_ q53_ q54_ q55_ q56_ q57_ q58_ q59_ q60_ q61_ q62_ q63_ q64_ q65_ q66_ q67_ q68_ q69_ q70_ q71_ q72_ q73_ q74_ : Value} (x R : ByteArray) (hx : x.size < 1152921504606846976) (hR : R.size ≤ 1000000) {w : World} {Q : Exit → Act → World → Prop}
    (hQ : ∀ (y31_ y32_ y33_ y34_ y35_ y36_ y37_ y38_ y39_ y40_ y41_ y42_ y43_ y44_ : Value) (w' : World) (_ : Below w.heap.size w w'), Q .normal ⟨#[
    (.string x), q1_, q2_, q3_, q4_, q5_, .string (R ++ zeroS ((120 - R.size % 64) % 64) ++ be 8 (x.size * 8)), q7_, q8_, q9_, q10_, q11_, q12_, q13_, q14_, q15_, q16_, q17_, q18_, q19_, q20_, q21_, q22_, 
    q23_, q24_, q25_, q26_, q27_, q28_, q29_, q30_, y31_, y32_, y33_, y34_, y35_, y36_, y37_, y38_, y39_, y40_, y41_, y42_, y43_, y44_, q45_, q46_, q47_, q48_, q49_, q50_, q51_, q52_, q53_, q54_, q55_, 
    q56_, q57_, q58_, q59_, q60_, q61_, q62_, q63_, q64_, q65_, q66_, q67_, q68_, q69_, q70_, q71_, q72_, q73_, q74_], []⟩ (w')) :
    Code.wp Try.prog (rshaReg 8) Q ⟨#[
    (.string x), q1_, q2_, q3_, q4_, q5_, (.string R), q7_, q8_, q9_, q10_, q11_, q12_, q13_, q14_, q15_, q16_, q17_, q18_, q19_, q20_, q21_, q22_, q23_, q24_, q25_, q26_, q27_, q28_, q29_, q30_, q31_, 
    q32_, q33_, q34_, q35_, q36_, q37_, q38_, q39_, q40_, q41_, q42_, q43_, q44_, q45_, q46_, q47_, q48_, q49_, q50_, q51_, q52_, q53_, q54_, q55_, q56_, q57_, q58_, q59_, q60_, q61_, q62_, q63_, q64_, 
    q65_, q66_, q67_, q68_, q69_, q70_, q71_, q72_, q73_, q74_], []⟩ w := by
  conv => arg 2; whnf
  refine wp_region_noPanic ?_
  have h0 : (R.size : Int).tmod 64 = ((R.size % 64 : Nat) : Int) := rfl
  generalize hmm : R.size % 64 = m at *
  have s1 := IntWalk.i64_in (120 - (m : Int)) (by omega)
  have h1' : (120 - (m : Int)).tmod 64 = (((120 - m) % 64 : Nat) : Int) := by
    rw [Int.tmod_eq_emod_of_nonneg (by omega)]
    omega
  generalize hnn : (120 - m) % 64 = n at *
  have s2 := IntWalk.i64_in ((x.size : Int) * 8) (by omega)
  have hmk := make_run n (by omega) (n : Int) rfl
  have hcv1 := zeros_run n (w.alloc (.cells (strCells (zeroS n)).toArray 5)).drew w.heap.size (Holds.new w 5 (strCells (zeroS n)).toArray).drew
  have hn0 : n ≤ 1000 := by omega
  have hzr := hid (zeros_run n)
  have hbe := hid (Be_any ((x.size : Int) * 8) 8 8 rfl (by omega) (x.size * 8) (by omega) (by omega))
  have hbe8 := be_size 8 (x.size * 8)
  have hzs := zeroS_size n
  have hab : R.size + n ≤ 9223372036854775807 := by omega
  have hab2 : R.size + n + 8 ≤ 9223372036854775807 := by omega
  generalize be 8 (x.size * 8) = E at *
  have hnn' := hid hnn
  have hmm' := hid hmm
  clear hmm hnn
  generalize hZ : zeroS n = Z at *
  go_region_with (go_at_call 63; refine (hbe.out _).mono ?_; rintro e w3 ⟨rfl, hb3⟩; first
    | have hcv2 := hzr.out w3 w.heap.size ((Holds.new w 5 (strCells Z).toArray).drew.below hb3 (by simp))
    | have hcv2 := hzr.out (w3.alloc (.cells (strCells Z).toArray 5)) w3.heap.size (Holds.new w3 5 (strCells Z).toArray))
  all_goals (refine NoPanic.normal ?_; first
    | exact hQ _ _ _ _ _ _ _ _ _ _ _ _ _ _ _ (((Below.refl w.heap.size w).alloc (Nat.le_refl _) _).drew.trans (hb3.mono (by simp)))
    | exact hQ _ _ _ _ _ _ _ _ _ _ _ _ _ _ _ (((Below.refl w.heap.size w).drew.trans hb3).alloc hb3.size _))

end Go.Proofs.Ytpjfhbmegabafaa
namespace Go.Proofs.Ytpjfhbmegabafaa
open Go.RowKit
attribute [local irreducible] Sha.compress Sha.blocks Sha.sha Sha.pad

/-- What stands of the reference's Sha while it works. -/
structure RefQ (w wr : World) (b : Nat) (s : Sha.S8) : Prop where
  h : Holds wr b 162 (wordCells s.list)
  o : Holds wr w.heap.size 33 z32.toList
  bl : Below w.heap.size w wr

theorem RefQ.step {w wr w2 w3 : World} {s s' : Sha.S8} (hq : RefQ w wr (w.heap.size + 1) s) (hd : w2 = wr.drew) (hb : Below w2.heap.size w2 w3) : RefQ w (w3.setCells (w.heap.size + 1) 0 (wordCells s'.list)) (w.heap.size + 1) s' := by
  subst hd
  have h1 := hq.h.drew.below hb hq.h.lt
  have h2 := hq.o.drew.below hb hq.o.lt
  have h3 := hq.bl.drew.trans (hb.mono hq.bl.size)
  exact ⟨s8_set s s' h1, h2.fars _ _ _ (by omega), below_setCells h3 _ _ _ (by omega)⟩

theorem RefQ.below {w wr w2 : World} {s : Sha.S8} (hq : RefQ w wr (w.heap.size + 1) s) (hb : Below wr.heap.size wr w2) : RefQ w w2 (w.heap.size + 1) s :=
  ⟨hq.h.below hb hq.h.lt, hq.o.below hb hq.o.lt, hq.bl.trans (hb.mono hq.bl.size)⟩

theorem RefQ.far {w wr : World} {s : Sha.S8} (hq : RefQ w wr (w.heap.size + 1) s) (p : Addr) (h1 : w.heap.size + 1 ≠ p.block) (h2 : w.heap.size ≠ p.block) (v : Value) (h3 : w.heap.size ≤ p.block) : RefQ w (wr.setCell p v) (w.heap.size + 1) s :=
  ⟨hq.h.far p h1 v, hq.o.far p h2 v, hq.bl.setCell h3 v⟩

/-- Blocks of a text worked in on a state. -/
def blkN (s : Sha.S8) (R : ByteArray) : Nat → Sha.S8
  | 0 => s
  | j + 1 => Sha.compress (blkN s R j) (R.extract (64 * j) (64 * j + 64)).data.toList

theorem blkN_next (s : Sha.S8) (R : ByteArray) (j : Nat) : blkN s R (j + 1) = Sha.compress (blkN s R j) (R.extract (64 * j) (64 * j + 64)).data.toList := rfl
theorem blkN_zero (s : Sha.S8) (R : ByteArray) : blkN s R 0 = s := rfl

theorem blkN_pad (x : ByteArray) (j : Nat) : blkN (Sha.blocks x.data.toList (x.size / 64)) (padAll x) j = Sha.blocks (Sha.pad x.data.toList) (x.size / 64 + j) := by
  induction j with
  | zero => rw [blkN_zero, pad_first]; rfl
  | succ j ih => rw [blkN_next, ih, pad_block]

attribute [local irreducible] blkN
noncomputable def refTail : Code := dropSeq 6 ((Try.f64.body).getD .skip)

/-- A word's byte, as the two loops (of this function and of the law's 'words') make it: the facts of the walk. -/
theorem outC_step (s : Sha.S8) (a b : Nat) (ha : a < 8) (hb : b < 4) : (outC s.bytes (4 * a + b)).set (4 * a + b) (.int .u8 (u (s.list.getD a 0) / 2 ^ (24 - 8 * b) % 256)) = outC s.bytes (4 * a + b + 1) := by
  rw [s8_byte s a b ha hb]
  exact outC_set _ (s8_bytes_length s) _ (by omega)

theorem Try.sizeHash : (Try.prog.info? 33).map (·.size) = some 32 := by kernel_rfl

set_option maxRecDepth 100000 in
set_option maxHeartbeats 2000000 in
theorem ref_tail {q1_ q4_ q5_ q7_ q8_ q9_ q10_ q11_ q12_ q13_ q14_ q15_ q16_ q17_ q18_ q19_ q20_ q21_ q22_ q23_ q24_ q25_ q26_ q27_ q28_ q29_ q30_ q31_ q32_ q33_ q34_ q35_ q36_ q37_ q38_ q39_ q40_ q41_ q42_ q43_ q44_ q45_ q46_ q47_ q48_ q49_ q50_ q51_ q52_ q53_ q54_ q55_ q56_ q57_ q58_ q59_ q60_ q61_ q62_ q63_ q64_ q65_ q66_ q67_ q68_ q69_ q70_ q71_ q72_ q73_ q74_ : Value} (x R : ByteArray) (s0 : Sha.S8) (p : Nat) (hp : R.size = 64 * p) (hp2 : p ≤ 100000) {w W : World} (hq0 : RefQ w W (w.heap.size + 1) s0) {Rr : Ending → World → Prop}
    (hQ : ∀ w', Below w.heap.size w w' → Rr (.returned (.agg (byteCells (blkN s0 R p).bytes).toArray)) w') :
    Code.wp Try.prog refTail (bodyPost Try.prog Try.f64 Rr) ⟨#[
    .string x, q1_, .pointer (some ⟨w.heap.size, 0, none⟩), .pointer (some ⟨w.heap.size + 1, 0, none⟩), q4_, q5_, .string R, q7_, q8_, q9_, q10_, q11_, q12_, q13_, q14_, q15_, q16_, 
    q17_, q18_, q19_, q20_, q21_, q22_, q23_, q24_, q25_, q26_, q27_, q28_, q29_, q30_, q31_, q32_, q33_, q34_, q35_, q36_, q37_, q38_, q39_, q40_, q41_, q42_, q43_, q44_, q45_, q46_, 
    q47_, q48_, q49_, q50_, q51_, q52_, q53_, q54_, q55_, q56_, q57_, q58_, q59_, q60_, q61_, q62_, q63_, q64_, q65_, q66_, q67_, q68_, q69_, q70_, q71_, q72_, q73_, q74_], []⟩ W := by
  conv => arg 2; whnf
  have hq0' := hid hq0
  have hQ' := hid hQ
  have hx' := hid hp2
  clear hq0 hQ
  go_wp2_with fail
  go_loopw [7] (fun i wr => ∃ k : Nat, k ≤ p ∧ i = .int .i64 (64 * (k : Int)) ∧ RefQ w wr (w.heap.size + 1) (blkN s0 R k)) (fun i _ => (64 * p - (intOf i).toNat))
  case atStart => exact ⟨0, Nat.zero_le _, rfl, by rw [blkN_zero]; exact hq0'.out⟩
  case round =>
    obtain ⟨k, hk, rfl, hq⟩ := hrel
    by_cases hlt : k < p
    · have q0 : (64 : Int) * k < 64 * (p : Int) := by omega
      have p2' : 64 * (k : Int) + 64 ≤ 64 * (p : Int) := by omega
      have s1 := IntWalk.i64_in (64 * (k : Int) + 64) (by have := hx'.out; omega)
      have p0 : (0 : Int) ≤ 64 * (k : Int) := by omega
      have p1 : 64 * (k : Int) ≤ 64 * (k : Int) + 64 := by omega
      have p2 : 64 * (k : Int) + 64 ≤ R.size := by omega
      have p3 : (0 : Int) ≤ 64 * (k : Int) + 64 := by omega
      have n0 : (64 * (k : Int)).toNat = 64 * k := by omega
      have n1 : (64 * (k : Int) + 64).toNat = 64 * k + 64 := by omega
      have hsz := hid (extract_size R (64 * k) 64 (by omega))
      have hnx := hid (blkN_next s0 R k)
      generalize blkN s0 R k = st at *
      have hcall := fun w => block256_any st (R.extract (64 * k) (64 * k + 64)) hsz.out w
      generalize Sha.compress st (R.extract (64 * k) (64 * k + 64)).data.toList = st' at *
      have hcall' := hid hcall
      clear hcall
      have c0 : wr.cell? ⟨w.heap.size + 1, 0, none⟩ = some (.int .u32 (u st.a)) := hq.h.cell 0
      have c1 : wr.cell? ⟨w.heap.size + 1, 1, none⟩ = some (.int .u32 (u st.b)) := hq.h.cell 1
      have c2 : wr.cell? ⟨w.heap.size + 1, 2, none⟩ = some (.int .u32 (u st.c)) := hq.h.cell 2
      have c3 : wr.cell? ⟨w.heap.size + 1, 3, none⟩ = some (.int .u32 (u st.d)) := hq.h.cell 3
      have c4 : wr.cell? ⟨w.heap.size + 1, 4, none⟩ = some (.int .u32 (u st.e)) := hq.h.cell 4
      have c5 : wr.cell? ⟨w.heap.size + 1, 5, none⟩ = some (.int .u32 (u st.f)) := hq.h.cell 5
      have c6 : wr.cell? ⟨w.heap.size + 1, 6, none⟩ = some (.int .u32 (u st.g)) := hq.h.cell 6
      have c7 : wr.cell? ⟨w.heap.size + 1, 7, none⟩ = some (.int .u32 (u st.h)) := hq.h.cell 7
      have hq' := hid hq
      clear hq
      go_wp2_with fail
      refine wp_region_still_tail 6 (by kernel_rfl) (by kernel_rfl) ?_
      simp only [List.take_succ_cons, List.take_zero, List.drop_succ_cons, List.drop_zero]
      repeat still_step
      refine wpStill_nil ?_
      change wpList _ _ _ _ _ wr.drew
      go_wp2_with fail
      refine (hcall'.out _).mono ?_
      rintro e w3 ⟨rfl, hb3⟩
      have hth := (hq'.out.h.drew.below hb3 hq'.out.h.lt).there 0 8 (by simp [wordCells, Sha.S8.list])
      rename_i hK1
      refine hK1 _ _ ?_
      refine wpList_store_mid rfl 162 (.tmp 3) (.tmp 57) rfl (w.heap.size + 1) 0 (wordCells st'.list).toArray rfl rfl (by exact hth) (by exact Try.sizeW8) (by exact all_oneCell_toArray (wordCells_one _)) ?_
      have hq3 := hid (hq'.out.step (s' := st') rfl hb3)
      go_wp2
      go_roundw
      case rel => exact ⟨k + 1, by omega, by go_num, by rw [hnx.out]; exact hq3.out⟩
      case measure => simp [intOf]; omega
    · obtain rfl : k = p := by omega
      obtain ⟨st, hst⟩ : ∃ st, blkN s0 R k = st := ⟨_, rfl⟩
      rw [hst] at hq hQ'
      have hH8 := Holds.new wr 33 z32
      have hq8 := hid (hq.below ((Below.refl _ _).alloc (Nat.le_refl _) (.cells z32 33)))
      have hne := hq.h.lt
      have hne2 := hq.o.lt
      obtain ⟨W8, hW8⟩ : ∃ W8, wr.alloc (.cells z32 33) = W8 := ⟨_, rfl⟩
      obtain ⟨B8, hB8⟩ : ∃ B8, wr.heap.size = B8 := ⟨_, rfl⟩
      rw [hW8] at hH8 hq8
      rw [hB8] at hH8 hne hne2
      have hH8' := hid hH8
      have hW8' := hid hW8
      have hB8' := hid hB8
      clear hst hH8 hW8 hB8 hq hk hlt
      go_wp2_with ((with_reducible refine at_slot (some 8) ?_); refine wpList_run rfl (.pointer (some ⟨wr.heap.size, 0, none⟩)) (wr.alloc (.cells z32 33)) (by kernel_rfl) ?_; rw [hW8'.out, hB8'.out])
      go_loopw [9] (fun i wr => ∃ k : Nat, k ≤ 32 ∧ i = .int .i64 (k : Int) ∧ RefQ w wr (w.heap.size + 1) st ∧ Holds wr B8 33 (outC st.bytes k)) (fun i _ => 32 - (intOf i).toNat)
      case atStart => exact ⟨0, by omega, rfl, hq8.out, by rw [outC_zero]; exact hH8'.out⟩
      case round =>
        obtain ⟨k, hk, rfl, hq, hO⟩ := hrel
        by_cases hlt : k < 32
        · obtain ⟨a, b, ha, hb, rfl⟩ : ∃ a b, a < 8 ∧ b < 4 ∧ k = 4 * a + b := ⟨k / 4, k % 4, by omega, by omega, by omega⟩
          have c0 : ∀ v, v = wr.cell? ⟨w.heap.size + 1, a, none⟩ → v = some (.int .u32 (u (st.list.getD a 0))) := fun v hv => hv.trans ((hq.h.cell a).trans (s8_get st a ha))
          replace c0 := c0 _ rfl
          have cO := (hO.cell (4 * a + b)).trans (outC_get _ (s8_bytes_length st) _ hlt)
          have fO := hO.frozen (4 * a + b)
          have hstep := hid (outC_step st a b ha hb)
          have hq' := hid hq
          have hO' := hid hO
          generalize hkk : 4 * a + b = k at *
          have hkk' := hid hkk
          have d0 : (k : Int) / 4 = (a : Int) := by omega
          have d1 : (k : Int).tmod 4 = (b : Int) := by rw [Int.tmod_eq_emod_of_nonneg (by omega)]; omega
          have d2 := IntWalk.i64_in (8 * (b : Int)) (by omega)
          have d3 := IntWalk.i64_in (24 - 8 * (b : Int)) (by omega)
          have d4 : (24 - 8 * (b : Int)).toNat = 24 - 8 * b := by omega
          have d5 : 0 ≤ 24 - 8 * (b : Int) := by omega
          have d6 : (a : Int) < 8 := by omega
          have d7 : (k : Int) < 32 := by omega
          clear hq hO hkk
          generalize st.list.getD a 0 = V at *
          go_wp2
          refine ⟨⟨k + 1, by omega, by go_num, hq'.out.far _ (by show _ ≠ B8; omega) (by show _ ≠ B8; omega) _ (by show _ ≤ B8; omega), ?_⟩, by simp [intOf]; omega⟩
          rw [← hstep.out]
          exact hO'.out.set _ _
        · obtain rfl : k = 32 := by omega
          rw [outC_all _ (s8_bytes_length st)] at hO
          have hcl : (byteCells st.bytes).length = 32 := by rw [byteCells_length, s8_bytes_length]
          have hr : wr.rangeAt B8 0 (byteCells st.bytes) := hO.range 0 _ (fun j _ => by rw [Nat.zero_add])
          have hth : wr.there w.heap.size 0 (byteCells st.bytes).toArray.size := hq.o.there 0 _ (by simp [hcl, z32])
          have hrs := hq.o.put 0 (byteCells st.bytes) (by rw [hcl]; decide)
          rw [put_all _ _ (by rw [hcl]; decide)] at hrs
          have hb := below_setCells hq.bl w.heap.size 0 (byteCells st.bytes) (Nat.le_refl _)
          have h1c := all_oneCell_toArray (byteCells_one st.bytes)
          generalize byteCells st.bytes = cs at *
          have hq' := hid hq
          have hO' := hid hO
          have hrs' := hid hrs
          have hb' := hid hb
          have hr' := hid hr
          have hth' := hid hth
          have h1c' := hid h1c
          clear hq hO hrs hb hr hth h1c
          go_wp2_with (first
            | ((with_reducible refine at_slot (some 74) ?_); refine wpList_load_mid rfl 33 (.tmp 8) rfl B8 0 rfl cs _ (by exact hr'.out) Try.underlying33 rfl (by rw [Try.sizeHash, hcl]) ?_)
            | ((with_reducible refine at_slot none ?_); refine wpList_store_mid rfl 33 (.tmp 2) (.tmp 74) rfl w.heap.size 0 cs.toArray rfl rfl (by exact hth'.out) (by rw [Try.sizeHash, List.size_toArray, hcl]) (by exact h1c'.out) ?_))
          refine bodyPost_ret (v := .agg cs.toArray) (results_cell_row rfl _ _ w.heap.size 33 cs.toArray (0, 0) _ rfl hrs'.out Try.underlying33 rfl (by rw [Try.sizeHash, List.size_toArray, hcl])) rfl (hQ'.out _ hb'.out)

end Go.Proofs.Ytpjfhbmegabafaa
namespace Go.Proofs.Ytpjfhbmegabafaa
open Go.RowKit

theorem blocks_zero (l : List UInt8) : Sha.blocks l 0 = Sha.S8.first := rfl
attribute [local irreducible] Sha.compress Sha.blocks Sha.sha Sha.pad blkN

noncomputable def refPart (n : Nat) : Code := partSeq n ((Try.f64.body).getD .skip)
theorem ref_body : Try.f64.body = some (.seq (refPart 0) (.seq (refPart 1) (.seq (refPart 2) (.seq (refPart 3) (.seq (refPart 4) (.seq (rshaReg 8) refTail)))))) := by kernel_rfl

set_option maxRecDepth 100000 in
set_option maxHeartbeats 2000000 in
theorem rsha_any (x : ByteArray) (w : World) (hx : x.size < 1152921504606846976) : Calls Try.prog 64 #[.string x] w fun e w' => e = .returned (hashV x.data.toList) ∧ Below w.heap.size w w' := by
  obtain ⟨W1, hW1⟩ : ∃ W1, w.alloc (.cells z32 33) = W1 := ⟨_, rfl⟩
  have hs1 : W1.heap.size = w.heap.size + 1 := by rw [← hW1]; simp
  have hb1 : Below w.heap.size w W1 := by rw [← hW1]; exact (Below.refl _ _).alloc (Nat.le_refl _) _
  have ho1 : Holds W1 w.heap.size 33 z32.toList := by rw [← hW1]; exact Holds.new w _ _
  have hW1' := hid hW1
  have hs1' := hid hs1
  have hb1' := hid hb1
  have ho1' := hid ho1
  clear hW1 hs1 hb1 ho1
  obtain ⟨q, hqx⟩ : ∃ q, x.size / 64 = q := ⟨_, rfl⟩
  have hwh : (x.size : Int) / 64 * 64 = 64 * (q : Int) := by omega
  have hwh' := hid hwh
  clear hwh
  have hqx' := hid hqx
  clear hqx
  refine calls_of_wp Try.func64 ref_body ?_
  have hfr : (#[.string x] ++ Array.replicate (Try.f64.ntmps - (#[.string x] : Array Value).size) undef : Array Value) = #[.string x, undef, undef, undef, undef, undef, undef, undef, undef, undef, undef, undef, undef, undef, undef, undef, undef, undef, undef, undef, undef, undef, undef, undef, undef, undef, undef, undef, undef, undef, undef, undef, undef, undef, undef, undef, undef, undef, undef, undef, undef, undef, undef, undef, undef, undef, undef, undef, undef, undef, undef, undef, undef, undef, undef, undef, undef, undef, undef, undef, undef, undef, undef, undef, undef, undef, undef, undef, undef, undef, undef, undef, undef, undef, undef] := by kernel_rfl
  rw [hfr]
  refine wp_seq ?_
  conv => arg 2; whnf
  go_wp2_with ((with_reducible refine at_slot (some 2) ?_); refine wpList_run rfl (.pointer (some ⟨w.heap.size, 0, none⟩)) (w.alloc (.cells z32 33)) (by kernel_rfl) ?_; rw [hW1'.out])
  conv => arg 2; whnf
  go_wp2_with (first
    | ((with_reducible refine at_slot (some 3) ?_); refine wpList_run rfl (.pointer (some ⟨W1.heap.size, 0, none⟩)) (W1.alloc (.cells z8 162)) (by kernel_rfl) ?_)
    | ((with_reducible refine at_slot none ?_); refine wpList_store_mid rfl 162 (.tmp 3) (.tmp 10) rfl W1.heap.size 0 (wordCells Sha.S8.first.list).toArray rfl rfl (by exact (Holds.new _ _ _).there 0 8 z8_le) (by exact Try.sizeW8) (by exact all_oneCell_toArray (wordCells_one _)) ?_; generalize hW2 : World.setCells _ _ _ _ = W2))
  conv => arg 2; whnf
  go_wp2_with fail
  rw [hwh'.out, hs1'.out]
  have hq2 : RefQ w W2 (w.heap.size + 1) Sha.S8.first := by
    have h0 := Holds.new W1 162 z8
    have h1 := h0.put 0 (wordCells Sha.S8.first.list) (by decide)
    rw [put_all _ _ (by decide)] at h1
    have h2 := (ho1'.out.alloc (.cells z8 162)).fars W1.heap.size 0 (wordCells Sha.S8.first.list) (by rw [hs1'.out]; omega)
    have h3 := below_setCells (hb1'.out.alloc hb1'.out.size (.cells z8 162)) W1.heap.size 0 (wordCells Sha.S8.first.list) hb1'.out.size
    rw [hs1'.out] at hW2
    rw [hs1'.out] at h1 h2 h3
    rw [hW2] at h1 h2 h3
    exact ⟨h1, h2, h3⟩
  have hq2' := hid hq2
  clear hW2 hq2
  have hx' := hid hx
  clear hx
  conv => arg 2; whnf
  go_wp2_with fail
  go_loopw [5] (fun i wr => ∃ k : Nat, k ≤ q ∧ i = .int .i64 (64 * (k : Int)) ∧ RefQ w wr (w.heap.size + 1) (Sha.blocks x.data.toList k)) (fun i _ => (64 * q - (intOf i).toNat))
  case atStart => exact ⟨0, Nat.zero_le _, rfl, by rw [blocks_zero]; exact hq2'.out⟩
  case round =>
    obtain ⟨k, hk, rfl, hq⟩ := hrel
    by_cases hlt : k < q
    · have hqb : 64 * q ≤ x.size := by have := hqx'.out; omega
      have q0 : (64 : Int) * k < 64 * (q : Int) := by omega
      have s1 := IntWalk.i64_in (64 * (k : Int) + 64) (by have := hx'.out; omega)
      have p0 : (0 : Int) ≤ 64 * (k : Int) := by omega
      have p1 : 64 * (k : Int) ≤ 64 * (k : Int) + 64 := by omega
      have p2 : 64 * (k : Int) + 64 ≤ x.size := by omega
      have p3 : (0 : Int) ≤ 64 * (k : Int) + 64 := by omega
      have n0 : (64 * (k : Int)).toNat = 64 * k := by omega
      have n1 : (64 * (k : Int) + 64).toNat = 64 * k + 64 := by omega
      have hsz := hid (extract_size x (64 * k) 64 (by omega))
      have hnx := hid (text_block x k)
      generalize Sha.blocks x.data.toList k = st at *
      have hcall := fun w => block256_any st (x.extract (64 * k) (64 * k + 64)) hsz.out w
      generalize Sha.compress st (x.extract (64 * k) (64 * k + 64)).data.toList = st' at *
      have hcall' := hid hcall
      clear hcall
      have c0 : wr.cell? ⟨w.heap.size + 1, 0, none⟩ = some (.int .u32 (u st.a)) := hq.h.cell 0
      have c1 : wr.cell? ⟨w.heap.size + 1, 1, none⟩ = some (.int .u32 (u st.b)) := hq.h.cell 1
      have c2 : wr.cell? ⟨w.heap.size + 1, 2, none⟩ = some (.int .u32 (u st.c)) := hq.h.cell 2
      have c3 : wr.cell? ⟨w.heap.size + 1, 3, none⟩ = some (.int .u32 (u st.d)) := hq.h.cell 3
      have c4 : wr.cell? ⟨w.heap.size + 1, 4, none⟩ = some (.int .u32 (u st.e)) := hq.h.cell 4
      have c5 : wr.cell? ⟨w.heap.size + 1, 5, none⟩ = some (.int .u32 (u st.f)) := hq.h.cell 5
      have c6 : wr.cell? ⟨w.heap.size + 1, 6, none⟩ = some (.int .u32 (u st.g)) := hq.h.cell 6
      have c7 : wr.cell? ⟨w.heap.size + 1, 7, none⟩ = some (.int .u32 (u st.h)) := hq.h.cell 7
      have hq' := hid hq
      clear hq
      go_wp2_with fail
      refine wp_region_still_tail 6 (by kernel_rfl) (by kernel_rfl) ?_
      simp only [List.take_succ_cons, List.take_zero, List.drop_succ_cons, List.drop_zero]
      repeat still_step
      refine wpStill_nil ?_
      change wpList _ _ _ _ _ wr.drew
      go_wp2_with fail
      refine (hcall'.out _).mono ?_
      rintro e w3 ⟨rfl, hb3⟩
      have hth := (hq'.out.h.drew.below hb3 hq'.out.h.lt).there 0 8 (by simp [wordCells, Sha.S8.list])
      rename_i hK1
      refine hK1 _ _ ?_
      refine wpList_store_mid rfl 162 (.tmp 3) (.tmp 26) rfl (w.heap.size + 1) 0 (wordCells st'.list).toArray rfl rfl (by exact hth) (by exact Try.sizeW8) (by exact all_oneCell_toArray (wordCells_one _)) ?_
      have hq3 := hid (hq'.out.step (s' := st') rfl hb3)
      go_wp2
      go_roundw
      case rel => exact ⟨k + 1, by omega, by go_num, by rw [hnx.out]; exact hq3.out⟩
      case measure => simp [intOf]; omega
    · obtain rfl : k = q := by omega
      have hqb : 64 * k ≤ x.size := by have := hqx'.out; omega
      have p0 : (0 : Int) ≤ 64 * (k : Int) := by omega
      have p1 : 64 * (k : Int) ≤ (x.size : Int) := by omega
      have n0 : (64 * (k : Int)).toNat = 64 * k := by omega
      have hsum : x.size - 64 * k + 1 ≤ 9223372036854775807 := by have := hx'.out; omega
      have hR0 : x.extract (64 * k) x.size ++ ⟨#[128]⟩ = padRest x := by unfold padRest; rw [hqx'.out]
      have hR0' := hid hR0
      have hq' := hid hq
      clear hR0 hq
      go_wp2_with fail
      conv => arg 2; whnf
      go_wp2_with fail
      rename_i hK
      rw [hR0'.out]
      obtain ⟨p, hp3, hp, hpp⟩ := padAll_size x
      have hps := padRest_size x
      have hpa : padRest x ++ zeroS ((120 - (padRest x).size % 64) % 64) ++ be 8 (x.size * 8) = padAll x := by rw [hps]; rfl
      refine rshaPad x (padRest x) hx'.out (by omega) ?_
      rw [hpa]
      intro _ _ _ _ _ _ _ _ _ _ _ _ _ _ w' hb
      refine hK _ _ ?_
      refine ref_tail x (padAll x) (Sha.blocks x.data.toList k) p hp (by omega) (hq'.out.below hb) ?_
      intro w2 hb2
      refine ⟨?_, hb2⟩
      have e := blkN_pad x p
      rw [← hpp, hqx'.out] at e
      rw [e]
      unfold hashV
      rw [Sha.sha_def]

end Go.Proofs.Ytpjfhbmegabafaa
