/- The padding that the reference's Sha makes. Made by tools/regions.py. -/
import Derived.Test.YtenfhmpjhbpkpaaRefOut
import Derived.Test.YtenfhmpjhbpkpaaRefBe
import Derived.Deep.RegionHeld3
namespace Go.Proofs.Ytenfhmpjhbpkpaa
open Go.RowKit
open Go.Lib (strCells strCells_length strCells_oneCell)

/-- 'make([]byte, n)', written out. -/
theorem make_run (n : Nat) (hn : n ≤ 1000000) (L : Int) (hL : L = n) (w : World) : (Instr.makeSlice 68 (.int .i64 L) (.int .i64 L)).run Try.prog w =
    .ok (.slice (some ⟨w.heap.size, 0, none⟩) n n) (w.alloc (.cells (strCells (zeroS n)).toArray 5)) := by
  subst hL
  obtain ⟨i, hi, hz0, hz1, hz2⟩ := info_parts Try.infoU8
  have h := run_make (P := Try.prog) w 68 5 i (.int .u8 0) Try.underlying68 hi hz0 .i64 .i64 (n : Int) (n : Int) (by omega) (by omega) (by rw [hz2]; omega) (by omega)
  rw [h]
  have e : madeCells (Value.int .u8 0).cells ((n : Int).toNat * i.size) = (strCells (zeroS n)).toArray := by
    rw [zeroS_cells, hz1, Int.toNat_natCast, Nat.mul_one]
    have := toList_madeCells_one (.int .u8 0) n
    rw [← this]
    rfl
  rw [e]
  rfl

/-- Zeros as a text. -/
theorem zeros_run (n : Nat) (w : World) (g : Nat) (h : Holds w g 5 (strCells (zeroS n))) : (convert 68 9 (.slice (some ⟨g, 0, none⟩) n n)).run Try.prog w = .ok (.string (zeroS n)) w :=
  run_convert_block (P := Try.prog) (w := w) (e := 5) (n := n) (c := n) 68 9 Try.underlying68 Try.underlying5 Try.underlying9 (zeroS_size n).symm h rfl


/-- The region of this number. -/
def rshaFind (n : Nat) : Code → Option Code
  | .region i ops d => if i = n then some (.region i ops d) else none
  | .loop c => rshaFind n c
  | .block _ c => rshaFind n c
  | .scope c => rshaFind n c
  | .seq a b => match rshaFind n a with
    | some c => some c
    | none => rshaFind n b
  | .cond _ a b => match rshaFind n a with
    | some c => some c
    | none => rshaFind n b
  | _ => none
noncomputable def rshaReg (n : Nat) : Code := ((Try.f23.body.bind (rshaFind n)).getD .skip)

set_option maxRecDepth 100000 in
set_option maxHeartbeats 2000000 in
theorem rshaPad {q1_ q2_ q3_ q4_ q5_ q7_ q8_ q9_ q10_ q11_ q12_ q13_ q14_ q15_ q16_ q17_ q18_ q19_ q20_ q21_ q22_ q23_ q24_ q25_ q26_ q27_ q28_ q29_ q30_ q31_ q32_ q33_ q34_ q35_ q36_ q37_ q38_ q39_ q40_ q41_ q42_ q43_ q44_ q45_ q46_ q47_ q48_ q49_ q50_ q51_ q52_ q53_ q54_ q55_ q56_ q57_ q58_ q59_ q60_ q61_ q62_ q63_ q64_ q65_ q66_ q67_ q68_ q69_ q70_ q71_ q72_ q73_ q74_ : Value} (x R : ByteArray) (hx : x.size < 1152921504606846976) (hR : R.size ≤ 1000000) {w : World} {Q : Exit → Act → World → Prop}
    (hQ : ∀ (y31_ y32_ y33_ y34_ y35_ y36_ y37_ y38_ y39_ y40_ y41_ y42_ y43_ y44_ : Value) (w' : World) (_ : Below w.heap.size w w'), Q .normal ⟨#[
    (.string x), q1_, q2_, q3_, q4_, q5_, .string (R ++ zeroS ((120 - R.size % 64) % 64) ++ be 8 (x.size * 8)), q7_, q8_, q9_, q10_, q11_, q12_, q13_, q14_, q15_, q16_, q17_, q18_, q19_, q20_, q21_, q22_, 
    q23_, q24_, q25_, q26_, q27_, q28_, q29_, q30_, y31_, y32_, y33_, y34_, y35_, y36_, y37_, y38_, y39_, y40_, y41_, y42_, y43_, y44_, q45_, q46_, q47_, q48_, q49_, q50_, q51_, q52_, q53_, q54_, q55_, 
    q56_, q57_, q58_, q59_, q60_, q61_, q62_, q63_, q64_, q65_, q66_, q67_, q68_, q69_, q70_, q71_, q72_, q73_, q74_], []⟩ (w')) :
    Code.wp Try.prog (rshaReg 8) Q ⟨#[
    (.string x), q1_, q2_, q3_, q4_, q5_, (.string R), q7_, q8_, q9_, q10_, q11_, q12_, q13_, q14_, q15_, q16_, q17_, q18_, q19_, q20_, q21_, q22_, q23_, q24_, q25_, q26_, q27_, q28_, q29_, q30_, q31_, 
    q32_, q33_, q34_, q35_, q36_, q37_, q38_, q39_, q40_, q41_, q42_, q43_, q44_, q45_, q46_, q47_, q48_, q49_, q50_, q51_, q52_, q53_, q54_, q55_, q56_, q57_, q58_, q59_, q60_, q61_, q62_, q63_, q64_, 
    q65_, q66_, q67_, q68_, q69_, q70_, q71_, q72_, q73_, q74_], []⟩ w := by
  conv => arg 2; whnf
  refine wp_region_noPanic ?_
  have h0 : (R.size : Int).tmod 64 = ((R.size % 64 : Nat) : Int) := rfl
  generalize hmm : R.size % 64 = m at *
  have s1 := IntWalk.i64_in (120 - (m : Int)) (by omega)
  have h1' : (120 - (m : Int)).tmod 64 = (((120 - m) % 64 : Nat) : Int) := by
    rw [Int.tmod_eq_emod_of_nonneg (by omega)]
    omega
  generalize hnn : (120 - m) % 64 = n at *
  have s2 := IntWalk.i64_in ((x.size : Int) * 8) (by omega)
  have hmk := make_run n (by omega) (n : Int) rfl
  have hcv1 := zeros_run n (w.alloc (.cells (strCells (zeroS n)).toArray 5)).drew w.heap.size (Holds.new w 5 (strCells (zeroS n)).toArray).drew
  have hn0 : n ≤ 1000 := by omega
  have hzr := hid (zeros_run n)
  have hbe := hid (Be_any ((x.size : Int) * 8) 8 8 rfl (by omega) (x.size * 8) (by omega) (by omega))
  have hbe8 := be_size 8 (x.size * 8)
  have hzs := zeroS_size n
  have hab : R.size + n ≤ 9223372036854775807 := by omega
  have hab2 : R.size + n + 8 ≤ 9223372036854775807 := by omega
  generalize be 8 (x.size * 8) = E at *
  have hnn' := hid hnn
  have hmm' := hid hmm
  clear hmm hnn
  generalize hZ : zeroS n = Z at *
  go_region_with (go_at_call 46; refine (hbe.out _).mono ?_; rintro e w3 ⟨rfl, hb3⟩; first
    | have hcv2 := hzr.out w3 w.heap.size ((Holds.new w 5 (strCells Z).toArray).drew.below hb3 (by simp))
    | have hcv2 := hzr.out (w3.alloc (.cells (strCells Z).toArray 5)) w3.heap.size (Holds.new w3 5 (strCells Z).toArray))
  all_goals (refine NoPanic.normal ?_; first
    | exact hQ _ _ _ _ _ _ _ _ _ _ _ _ _ _ _ (((Below.refl w.heap.size w).alloc (Nat.le_refl _) _).drew.trans (hb3.mono (by simp)))
    | exact hQ _ _ _ _ _ _ _ _ _ _ _ _ _ _ _ (((Below.refl w.heap.size w).drew.trans hb3).alloc hb3.size _))

end Go.Proofs.Ytenfhmpjhbpkpaa
