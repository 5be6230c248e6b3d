/- Digest.finish, whole. -/
import Derived.Test.YtenfhmpjhbpkpaaShaFin
import Derived.Lib.SliceRun
namespace Go.Proofs.Ytenfhmpjhbpkpaa
open Go.RowKit

attribute [local irreducible] Sha.compress Sha.blocks

def partSeq : Nat → Code → Code
  | 0, .seq a _ => a
  | n + 1, .seq _ c => partSeq n c
  | _, c => c

noncomputable def finPart (n : Nat) : Code := partSeq n ((Try.f59.body).getD .skip)

theorem fin_body : Try.f59.body = some (.seq (finPart 0) (.seq (finPart 1) finMid)) := by kernel_rfl
theorem fin_mid_eq : finMid = .seq (finPart 2) (.seq (finPart 3) (.seq (finPart 4) (.seq (finPart 5) finTail))) := by kernel_rfl

section
variable {P : Program} {ops : Array Oper} {o : Oper} {a : Act} {w : World} {Q : Exit → Act → World → Prop}
/-- The operation 'clear(s)', its run known. -/
theorem wpList_clear_run {rest : List Oper} (hgd : o.guard = none) (x : Operand) (t : TypeId) (ho : o.op = .call { callee := .builtin .clear, args := #[x], argTypes := #[t] }) (v : Value) (hx : a.eval x = v) {v' : Value} {w' : World}
    (hr : (Builtin.clear_ #[t] o.type #[v]).run P w = .ok v' w') (h : wpList P ops Q rest (a.put o.dst v') w') : wpList P ops Q (o :: rest) a w :=
  wpList_plain hgd fun _ hK => by
    unfold Oper.wp execOp
    simp only [ho, resolve, invoke, builtin, Sem.run_bind, Sem.run_pure, Result.andThen_ok, List.map_toArray, List.map_cons, List.map_nil, hx, hr]
    exact hK _ _ h
end

theorem zeroU8 (w : World) : (zeroValue 5).run Try.prog w = .ok (.int .u8 0) w := by kernel_rfl

theorem byteCells_zero (m : Nat) : byteCells (List.replicate m 0) = List.replicate m (.int .u8 0) := by
  unfold byteCells
  rw [List.map_replicate]
  rfl

/-- 'clear' of part of a digest's bytes. -/
theorem run_clear_dig (w : World) (g : Nat) (s : Sha.S8) (rest : List UInt8) (n : Int) (hr : rest.length = 64) (h : Holds w g 91 (digCells s rest n)) (k : Nat) (hk : k < 64) (ty : TypeId) :
    ∃ w', (Builtin.clear_ #[68] ty #[.slice (some ⟨g, 8 + k, none⟩) (64 - k) (64 - k)]).run Try.prog w = .ok (.tuple #[]) w' ∧ Holds w' g 91 (digCells s (rest.take k ++ List.replicate (64 - k) 0) n) ∧ w.grownBy w' (some g) := by
  have hth := h.there (8 + k) (64 - k) (by rw [dig_length s rest n hr]; omega)
  refine ⟨_, Lib.run_clear_slice w 68 5 ty (.int .u8 0) Try.underlying68 zeroU8 rfl rfl g (8 + k) (64 - k) (64 - k) (by omega) (fun j hj => (hth j hj).1) (fun j hj => (hth j hj).2), ?_, only_setCells (World.grownBy.refl _ _) _ _⟩
  rw [← byteCells_zero]
  have h1 := h.put (8 + k) (byteCells (List.replicate (64 - k) 0)) (by rw [dig_length s rest n hr, byteCells_length, List.length_replicate]; omega)
  rw [dig_bytes s rest _ k n hr (by rw [List.length_replicate]; omega)] at h1
  have e : Sha.laid rest (List.replicate (64 - k) 0) k = rest.take k ++ List.replicate (64 - k) 0 := by
    unfold Sha.laid
    rw [List.drop_of_length_le (by rw [List.length_replicate]; omega), List.append_nil]
  rw [e] at h1
  exact h1

theorem run_slice_end (w : World) (g : Nat) : ∃ A, (Instr.sliceAt 89 (.pointer (some ⟨g, 8, none⟩)) (some (.int .i64 64)) none none).run Try.prog w = .ok (.slice A 0 0) w := by
  first
    | exact ⟨some ⟨g, 8, none⟩, by kernel_rfl⟩
    | exact ⟨some ⟨g, 72, none⟩, by kernel_rfl⟩
    | exact ⟨none, by kernel_rfl⟩

theorem run_clear_none (w : World) (A : Option Addr) (ty : TypeId) : (Builtin.clear_ #[68] ty #[.slice A 0 0]).run Try.prog w = .ok (.tuple #[]) w := by
  cases A <;> simp [Builtin.clear_, run_underlying Try.underlying68]

set_option maxRecDepth 100000 in
set_option maxHeartbeats 2000000 in
theorem fin_mid {q1_ q3_ q4_ q5_ q6_ q7_ q8_ q9_ q10_ q11_ q12_ q13_ q14_ q15_ q16_ q17_ q18_ q19_ q20_ q21_ q22_ q23_ q24_ q25_ q26_ q27_ q28_ q29_ q30_ q31_ q32_ q33_ q34_ q35_ q36_ q37_ q38_ q39_ q40_ q41_ q42_ q43_ q44_ q45_ q46_ q47_ q48_ q49_ q50_ q51_ q52_ q53_ q54_ q55_ q56_ q57_ q58_ q59_ q60_ q61_ q62_ q63_ q64_ q65_ q66_ q67_ q68_ q69_ q70_ q71_ q72_ q73_ q74_ q75_ q76_ q77_ q78_ q79_ q80_ q81_ q82_ q83_ q84_ q85_ q86_ q87_ q88_ q89_ q90_ q91_ q92_ q93_ q94_ q95_ q96_ q97_ q98_ q99_ q100_ q101_ q102_ q103_ q104_ q105_ q106_ q107_ q108_ q109_ q110_ q111_ : Value} (g B : Nat) (t : List UInt8) (S : Sha.S8) (R : List UInt8) (hV : Sha.Valid S R t) (hn : t.length < 1152921504606846976) {w : World} (hH : Holds w g 91 (digCells S R (t.length : Int)))
    (hB : w.heap[B]? = some (.cells z32 28 (0, 0))) (hgB : g ≠ B) {Rr : Ending → World → Prop}
    (hQ : ∀ w', Turns w w' g (some B) → Rr (.returned (.agg (byteCells (Sha.sha t)).toArray)) w') :
    Code.wp Try.prog finMid (bodyPost Try.prog Try.f59 Rr) ⟨#[
    .pointer (some ⟨g, 0, none⟩), q1_, .pointer (some ⟨B, 0, none⟩), q3_, q4_, q5_, q6_, q7_, q8_, q9_, q10_, q11_, q12_, q13_, q14_, q15_, q16_, q17_, q18_, q19_, q20_, q21_, q22_, 
    q23_, q24_, q25_, q26_, q27_, q28_, q29_, q30_, q31_, q32_, q33_, q34_, q35_, q36_, q37_, q38_, q39_, q40_, q41_, q42_, q43_, q44_, q45_, q46_, q47_, q48_, q49_, q50_, q51_, q52_, 
    q53_, q54_, q55_, q56_, q57_, q58_, q59_, q60_, q61_, q62_, q63_, q64_, q65_, q66_, q67_, q68_, q69_, q70_, q71_, q72_, q73_, q74_, q75_, q76_, q77_, q78_, q79_, q80_, q81_, q82_, 
    q83_, q84_, q85_, q86_, q87_, q88_, q89_, q90_, q91_, q92_, q93_, q94_, q95_, q96_, q97_, q98_, q99_, q100_, q101_, q102_, q103_, q104_, q105_, q106_, q107_, q108_, q109_, q110_, 
    q111_], []⟩ w := by
  rw [fin_mid_eq]
  have hR := hV.1
  have cl := (hH.cell 72).trans (dig_len S R _ hR)
  have hk := Nat.mod_lt t.length (show 0 < 64 by omega)
  have hps := hid (fun h => Sha.pad_short hV h)
  have hpl := hid (fun h => Sha.pad_long hV h)
  have hrem : (t.length : Int) % 64 = ((t.length % 64 : Nat) : Int) := rfl
  generalize hkk : t.length % 64 = k at *
  have hkk' := hid hkk
  have hV' := hid hV
  have hQ' := hid hQ
  have hB' := hid hB
  clear hkk hV hQ hB
  have c0 := hH.cell (8 + k)
  have cf := hH.frozen (8 + k)
  obtain ⟨v0, hv0⟩ : ∃ v0, (digCells S R (t.length : Int))[8 + k]? = some v0 := ⟨_, List.getElem?_eq_getElem (by rw [dig_length S _ _ hR]; omega)⟩
  rw [hv0] at c0
  have hH1 := hH.set (8 + k) (.int .u8 ((128 : UInt8).toNat : Int))
  rw [dig_one S R 128 k _ hR hk] at hH1
  change Holds (w.setCell _ (.int .u8 128)) _ _ _ at hH1
  have hG1 : w.grownBy (w.setCell ⟨g, 8 + k, none⟩ (.int .u8 128)) (some g) := only_setCell (World.grownBy.refl _ _) _ _
  have hH1' := hid hH1
  have hG1' := hid hG1
  clear hH1 hG1 hH hv0
  refine wp_seq ?_
  conv => arg 2; whnf
  go_wp2
  rw [hrem]
  conv => arg 2; whnf
  go_wp2
  have hH1 := hH1'.out
  have hG1 := hG1'.out
  clear hH1' hG1' c0 cf cl hrem
  generalize w.setCell ⟨g, 8 + k, none⟩ (.int .u8 128) = W1 at *
  have hr1 : (Sha.laid R [128] k).length = 64 := by rw [Sha.laid_length, hR]; rw [hR, List.length_singleton]; omega
  have s1 := IntWalk.i64_in ((k : Int) + 1) (by omega)
  have hcl : ∃ A W2, (Instr.sliceAt 89 (.pointer (some ⟨g, 8, none⟩)) (some (.int .i64 ((k : Int) + 1))) none none).run Try.prog W1 = .ok (.slice A (63 - k) (63 - k)) W1 ∧
      (Builtin.clear_ #[68] 0 #[.slice A (63 - k) (63 - k)]).run Try.prog W1 = .ok (.tuple #[]) W2 ∧ Holds W2 g 91 (digCells S (R.take k ++ [128] ++ List.replicate (63 - k) 0) (t.length : Int)) ∧ w.grownBy W2 (some g) := by
    by_cases hk63 : k = 63
    · subst hk63
      obtain ⟨A, hA⟩ := run_slice_end W1 g
      refine ⟨A, W1, hA, run_clear_none W1 A 0, ?_, hG1⟩
      have e : Sha.laid R [128] 63 = R.take 63 ++ [128] ++ List.replicate (63 - 63) 0 := by
        unfold Sha.laid
        rw [List.drop_of_length_le (by rw [hR]; decide)]
        rfl
      rw [← e]
      exact hH1
    · obtain ⟨W2, h1, h2, h3⟩ := run_clear_dig W1 g S _ _ hr1 hH1 (k + 1) (by omega) 0
      have hA := run_sliceAt_from (P := Try.prog) 89 5 g 8 64 (k + 1) (by omega) Try.underlying89 (by kernel_rfl) W1
      have e0 : 64 - (k + 1) = 63 - k := by omega
      rw [e0] at h1 h2 hA
      refine ⟨_, W2, hA, h1, ?_, only_trans hG1 h3⟩
      have e : (Sha.laid R [128] k).take (k + 1) = R.take k ++ [128] := by
        unfold Sha.laid
        rw [List.take_append_of_le_length (by simp; omega), List.take_of_length_le (by simp; omega)]
      rw [e] at h2
      exact h2
  obtain ⟨A, W2, hA, hclr, hH2, hG2⟩ := hcl
  have hH2' := hid hH2
  have hG2' := hid hG2
  clear hH1 hG1 hH2 hG2
  conv => arg 2; whnf
  go_wp2_with (refine wpList_clear_run rfl (.tmp 33) 68 rfl _ rfl (by exact hclr) ?_)
  clear hA hclr
  conv => arg 2; whnf
  have hl2 : (R.take k ++ [128] ++ List.replicate (63 - k) 0).length = 64 := by
    simp [hR]
    omega
  have hB2 : W2.heap[B]? = some (.cells z32 28 (0, 0)) := by
    have hBlt : B < w.heap.size := by
      rcases Nat.lt_or_ge B w.heap.size with h | h
      · exact h
      · have := hB'.out
        rw [Array.getElem?_eq_none h] at this
        cases this
    exact (hG2'.out.block B hBlt (fun e => hgB (Option.some.inj e).symm)).trans hB'.out
  have hT2 : Turns w W2 g (some B) := Turns.of_only hG2'.out _
  have hB2' := hid hB2
  have hT2' := hid hT2
  clear hB2 hT2
  by_cases h56 : k < 56
  · have hsum : Sha.compress S (Sha.laid (R.take k ++ [128] ++ List.replicate (63 - k) 0) (Sha.be 8 (8 * t.length)) 56) = Sha.blocks (Sha.pad t) ((Sha.pad t).length / 64) := by
      rw [← hps.out h56]
      congr 1
      unfold Sha.laid
      rw [List.drop_of_length_le (by rw [hl2, Sha.beL8_length]; exact Nat.le_refl _), List.append_nil]
      congr 1
      have e : 63 - k = (55 - k) + 8 := by omega
      have hlen : (R.take k ++ [128] ++ List.replicate (55 - k) 0).length = 56 := by
        simp [hR]
        omega
      rw [e, ← List.replicate_append_replicate, ← List.append_assoc, ← hlen, List.take_left]
    have hsum' := hid hsum
    clear hsum
    go_wp2
    refine fin_tail g B t.length S _ hl2 hn hH2'.out hB2'.out hgB ?_
    intro w' hT
    rw [hsum'.out]
    exact hQ'.out w' (hT2'.out.trans (.inl rfl) hT)
  · have hsum : Sha.compress (Sha.compress S (R.take k ++ [128] ++ List.replicate (63 - k) 0)) (Sha.laid ((R.take k ++ [128] ++ List.replicate (63 - k) 0).take 0 ++ List.replicate (64 - 0) 0) (Sha.be 8 (8 * t.length)) 56) = Sha.blocks (Sha.pad t) ((Sha.pad t).length / 64) := by
      rw [← hpl.out (by omega)]
      congr 1
    have hsum' := hid hsum
    have hl3 : ((R.take k ++ [128] ++ List.replicate (63 - k) 0).take 0 ++ List.replicate (64 - 0) 0 : List UInt8).length = 64 := by simp
    clear hsum
    generalize hR2 : R.take k ++ [128] ++ List.replicate (63 - k) 0 = R2 at *
    have hR2' := hid hR2
    clear hR2
    go_wp2_with fail
    go_still_tail 6, (by kernel_rfl)
    change wpList _ _ _ _ _ W2.drew
    go_wp2_with fail
    refine (mix_any g _ S R2 _ hl2 _ hH2'.out.drew).mono ?_
    rintro e w3 ⟨rfl, hH3, hG3⟩
    generalize hS3 : Sha.compress S R2 = S3 at *
    have hS3' := hid hS3
    clear hS3
    obtain ⟨W4, hc, hH4, hG4⟩ := run_clear_dig w3 g S3 R2 _ hl2 hH3 0 (by omega) 0
    have hG5 := only_trans (only_drew hG2'.out) (only_trans hG3 hG4)
    have hl0 := hG2'.out.size
    have hB4 : W4.heap[B]? = some (.cells z32 28 (0, 0)) := by
      have hBlt : B < w.heap.size := by
        rcases Nat.lt_or_ge B w.heap.size with h | h
        · exact h
        · have := hB'.out
          rw [Array.getElem?_eq_none h] at this
          cases this
      exact (hG5.block B hBlt (fun e => hgB (Option.some.inj e).symm)).trans hB'.out
    have hT4 : Turns w W4 g (some B) := Turns.of_only hG5 _
    have hB4' := hid hB4
    have hT4' := hid hT4
    have hH4' := hid hH4
    clear hB4 hT4 hH4 hG5 hG3 hG4 hH3
    go_wp2_with (refine wpList_clear_run rfl (.tmp 46) 68 rfl _ rfl (by exact hc) ?_)
    refine fin_tail g B t.length S3 _ hl3 hn hH4'.out hB4'.out hgB ?_
    intro w' hT
    rw [hsum'.out]
    exact hQ'.out w' (hT4'.out.trans (.inl rfl) hT)

set_option maxRecDepth 100000 in
set_option maxHeartbeats 2000000 in
theorem finish_any (g : Nat) (t : List UInt8) (w : World) (hd : Dig w g t) (hn : t.length < 1152921504606846976) :
    Calls Try.prog 59 #[.pointer (some ⟨g, 0, none⟩)] w fun e w' => e = .returned (.agg (byteCells (Sha.sha t)).toArray) ∧ w.grownBy w' (some g) := by
  obtain ⟨s, rest, hr, hv, hH⟩ := hd
  refine calls_of_wp Try.func59 fin_body ?_
  have hfr : (#[.pointer (some ⟨g, 0, none⟩)] ++ Array.replicate (Try.f59.ntmps - (#[.pointer (some ⟨g, 0, none⟩)] : Array Value).size) undef : Array Value) = #[.pointer (some ⟨g, 0, none⟩), undef, undef, undef, undef, undef, undef, undef, undef, undef, undef, undef, undef, undef, undef, undef, undef, undef, undef, undef, undef, undef, undef, undef, undef, undef, undef, undef, undef, undef, undef, undef, undef, undef, undef, undef, undef, undef, undef, undef, undef, undef, undef, undef, undef, undef, undef, undef, undef, undef, undef, undef, undef, undef, undef, undef, undef, undef, undef, undef, undef, undef, undef, undef, undef, undef, undef, undef, undef, undef, undef, undef, undef, undef, undef, undef, undef, undef, undef, undef, undef, undef, undef, undef, undef, undef, undef, undef, undef, undef, undef, undef, undef, undef, undef, undef, undef, undef, undef, undef, undef, undef, undef, undef, undef, undef, undef, undef, undef, undef, undef, undef] := by kernel_rfl
  rw [hfr]
  have hB0 : (w.alloc (.cells z32 28)).heap[w.heap.size]? = some (.cells z32 28 (0, 0)) := heap_alloc_new _ _
  have hH0 := hH.alloc (.cells z32 28)
  have hgB : g ≠ w.heap.size := Nat.ne_of_lt hH.lt
  have hb0 : Below w.heap.size w (w.alloc (.cells z32 28)) := (Below.refl _ _).alloc (Nat.le_refl _) _
  obtain ⟨W1, hW1⟩ : ∃ W1, w.alloc (.cells z32 28) = W1 := ⟨_, rfl⟩
  rw [hW1] at hB0 hH0 hb0
  have hb0' := hid hb0
  have hv' := hid hv
  have hB0' := hid hB0
  have cl := (hH0.cell 72).trans (dig_len s rest _ hr)
  clear hv hB0 hb0 hH
  have hend : ∀ w', Turns W1 w' g (some w.heap.size) → w.grownBy w' (some g) := by
    intro w' h
    have hb := hb0'.out
    refine ⟨h.os.trans hb.os, h.tape.trans hb.tape, h.output.trans hb.output, Nat.le_trans hb.size h.size, fun k hk hkg => ?_⟩
    refine (h.block k (Nat.lt_of_lt_of_le hk hb.size) (fun e => hkg (by rw [e])) (fun e => ?_)).trans (hb.block k hk)
    have := Option.some.inj e
    omega
  have hend' := hid hend
  clear hend
  refine wp_seq ?_
  conv => arg 2; whnf
  go_wp2_with ((with_reducible refine at_slot (some 2) ?_); refine wpList_run rfl (.pointer (some ⟨w.heap.size, 0, none⟩)) (w.alloc (.cells z32 28)) (by kernel_rfl) ?_; rw [hW1])
  conv => arg 2; whnf
  by_cases ht : t = []
  · have hl0 : ((t.length : Int) == 0) = true := by rw [ht]; rfl
    have ht' := hid ht
    clear ht
    go_wp2_with fail
    refine (firstWords_any _).mono ?_
    rintro e w1 ⟨rfl, hb1⟩
    have hH1 := hH0.below hb1 hH0.lt
    have hth := hH1.there 0 8 (by rw [dig_length s rest _ hr]; omega)
    go_wp2_with (refine wpList_store_mid rfl 66 (.tmp 17) (.tmp 15) rfl g 0 (wordCells Sha.S8.first.list).toArray rfl rfl (by exact hth) (by exact Try.sizeW8) (by exact all_oneCell_toArray (wordCells_one _)) ?_; generalize hW2 : World.setCells _ _ _ _ = W2)
    have hG : W1.grownBy W2 (some g) := by
      rw [← hW2]
      exact only_setCells (only_of_below hb1 _) _ _
    have hH2 := hH1.put 0 (wordCells Sha.S8.first.list) (by rw [dig_length s rest _ hr]; decide)
    rw [dig_words, hW2] at hH2
    have hT : Turns W1 W2 g (some w.heap.size) := Turns.of_only hG _
    have hB2 := (hG.block w.heap.size (by have := hb0'.out.size; have := Array.getElem?_eq_some_iff.1 hB0'.out; exact this.1) (fun e => hgB (Option.some.inj e).symm)).trans hB0'.out
    refine fin_mid g w.heap.size t Sha.S8.first rest (by rw [ht'.out]; exact Sha.valid_first rest hr) hn hH2 hB2 hgB ?_
    intro w' h
    exact ⟨rfl, hend'.out _ (hT.trans (.inl rfl) h)⟩
  · have hl0 : ((t.length : Int) == 0) = false := by
      simp
      exact ht
    have ht' := hid ht
    clear ht
    go_wp2
    refine fin_mid g w.heap.size t s rest (hv'.out ht'.out) hn hH0 hB0'.out hgB ?_
    intro w' h
    exact ⟨rfl, hend'.out _ h⟩

end Go.Proofs.Ytenfhmpjhbpkpaa
