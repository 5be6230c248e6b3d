/- Layer 3's Writer: its walks. -/
import Derived.Test.YtapegklffglnoaaU8
import Derived.Test.YtapegklffglnoaaRows
import Derived.Test.YtapegklffglnoaaWirePlain
import Derived.Deep.DeepMust
import Derived.Outline
namespace Go.Proofs.Ytapegklffglnoaa
open Go.RowKit
open Go.Lib (strCells strCells_length strCells_oneCell)

theorem rbool {a b : Bool} (h : a = b) : Ending.returned (.bool a) = Ending.returned (.bool b) := by rw [h]
theorem rstr {a b : ByteArray} (h : a = b) : Ending.returned (.string a) = Ending.returned (.string b) := by rw [h]

theorem isSize_any (size : Int) (w : World) : Calls Try.prog 123 #[.int .i64 size] w fun e w' => e = .returned (.bool (isSizeB size)) ∧ w = w' := by
  cases h : isSizeB size with
  | true =>
    rcases isSizeB_cases h with rfl | rfl | rfl
    all_goals
      clear h
      go_enter Try.func123, Try.ntmps123
      go_wp2
      go_ret
      exact ⟨rfl, rfl⟩
  | false =>
    obtain ⟨h1, h2, h4⟩ := isSizeB_no h
    clear h
    have g1 : (size == 1) = false := by simpa using h1
    have g2 : (size == 2) = false := by simpa using h2
    have g4 : (size == 4) = false := by simpa using h4
    go_enter Try.func123, Try.ntmps123
    go_wp2
    go_ret
    exact ⟨rfl, rfl⟩

theorem fits_small (x size : Int) (h0 : 0 ≤ x) (h : isSizeB size = true) {m : Int} (hm : (256 : Int) ^ size.toNat = m := by decide) (hp : 0 < m := by decide) : (x / m == 0) = fitsB x size := by
  subst hm
  simp only [fitsB, h, Bool.true_and]
  rw [Bool.eq_iff_iff, beq_iff_eq, decide_eq_true_eq]
  constructor
  · intro h1
    have := Int.emod_lt_of_pos x hp
    have e := Int.mul_ediv_add_emod x (256 ^ size.toNat)
    rw [h1] at e
    omega
  · intro h1
    exact Int.ediv_eq_zero_of_lt h0 h1.2

theorem fits_any (x size : Int) (w : World) : Calls Try.prog 116 #[.int .i64 x, .int .i64 size] w fun e w' => e = .returned (.bool (fitsB x size)) ∧ w = w' := by
  have c1 := hid (isSize_any size)
  cases hs : isSizeB size with
  | false =>
    have hf : fitsB x size = false := by simp [fitsB, hs]
    have hf' := hid hf
    rw [hs] at c1
    clear hs hf
    go_enter Try.func116, Try.ntmps116
    go_wp2_with (go_at_call 123; refine (c1.out _).mono ?_; rintro e w' ⟨rfl, rfl⟩)
    go_ret
    exact ⟨rbool hf'.out.symm, rfl⟩
  | true =>
    rw [hs] at c1
    by_cases h0 : 0 ≤ x
    · rcases isSizeB_cases hs with rfl | rfl | rfl
      all_goals
        clear hs
        go_enter Try.func116, Try.ntmps116
        go_wp2_with (go_at_call 123; refine (c1.out _).mono ?_; rintro e w' ⟨rfl, rfl⟩)
        go_ret
        exact ⟨rbool (fits_small x _ h0 (by decide)), rfl⟩
    · have hf : fitsB x size = false := by simp [fitsB, hs]; omega
      have hf' := hid hf
      clear hs hf
      go_enter Try.func116, Try.ntmps116
      go_wp2_with (go_at_call 123; refine (c1.out _).mono ?_; rintro e w' ⟨rfl, rfl⟩)
      go_ret
      exact ⟨rbool hf'.out.symm, rfl⟩

theorem u8_mod (x : Int) (h : 0 ≤ x) (k : Nat) : ((UInt8.ofNat (x.toNat / k)).toNat : Int) = (x / k) % 256 := by
  obtain ⟨n, rfl⟩ : ∃ n : Nat, x = n := ⟨x.toNat, by omega⟩
  simp

theorem be4_cells (x : Int) (h0 : 0 ≤ x) (h1 : x < 4294967296) :
    [Value.int .u8 (x / 16777216), .int .u8 (x / 65536 % 256), .int .u8 (x / 256 % 256), .int .u8 (x % 256)] = strCells (be 4 x.toNat) := by
  have e : (be 4 x.toNat).data.toList = [UInt8.ofNat (x.toNat / 16777216), UInt8.ofNat (x.toNat / 65536), UInt8.ofNat (x.toNat / 256), UInt8.ofNat (x.toNat / 1)] := rfl
  unfold strCells
  rw [e]
  simp only [List.map_cons, List.map_nil, u8_mod x h0]
  have e1 : x / 16777216 % 256 = x / 16777216 := by omega
  simp [e1]

set_option maxRecDepth 100000 in
set_option maxHeartbeats 400000 in
theorem U32_any (x : Int) (h0 : 0 ≤ x) (h1 : x < 4294967296) (w : World) : Calls Try.prog 133 #[.int .i64 x] w fun e w' => e = .returned (.string (be 4 x.toNat)) ∧ Below w.heap.size w w' := by
  have hc := run_convert_block (P := Try.prog) (e := 5) 62 9 Try.underlying62 Try.underlying5 Try.underlying9 (c := 4) (t := 5) (fr := (0, 0)) (cs := #[.int .u8 (x / 16777216), .int .u8 (x / 65536 % 256), .int .u8 (x / 256 % 256), .int .u8 (x % 256)]) (be_size 4 x.toNat).symm (heap_alloc_new w _) (be4_cells x h0 h1)
  go_enter Try.func133, Try.ntmps133
  go_wp2
  go_ret
  exact ⟨rfl, (Below.refl _ _).alloc (Nat.le_refl _) _⟩

set_option maxRecDepth 100000 in
theorem digits_any (x size : Int) (hs : isSizeB size = true) (h0 : 0 ≤ x) (h1 : x < 4294967296) (w : World) : Calls Try.prog 118 #[.int .i64 x, .int .i64 size] w fun e w' => e = .returned (.string (be size.toNat x.toNat)) ∧ Below w.heap.size w w' := by
  have c1 := hid (U32_any x h0 h1)
  have hz := hid (be_size 4 x.toNat)
  have hx := hid (be_extract x.toNat)
  clear h0 h1
  generalize be 4 x.toNat = b at *
  rcases isSizeB_cases hs with rfl | rfl | rfl
  all_goals
    have hz' := hz.out
    go_enter Try.func118, Try.ntmps118
    go_wp2_with (go_at_call 133; refine (c1.out _).mono ?_; rintro e w1 ⟨rfl, hb1⟩)
    go_ret
    refine ⟨rstr ?_, hb1⟩
    first
      | exact hx.out 1 (by decide)
      | exact hx.out 2 (by decide)
      | exact hx.out 4 (by decide)

/-- The closure that tells a number as so many bytes. -/
theorem numTell_any (x size : Int) (hs : isSizeB size = true) (h0 : 0 ≤ x) (h1 : x < 4294967296) (b : Nat) (w : World) (hb : w.cell? ⟨b, 0, none⟩ = some (.int .i64 size)) :
    Calls Try.prog 121 #[.int .i64 x, .pointer (some ⟨b, 0, none⟩)] w fun e w' => e = .returned (.string (be size.toNat x.toNat)) ∧ Below w.heap.size w w' := by
  have c1 := hid (digits_any x size hs h0 h1)
  clear h0 h1
  go_enter Try.func121, Try.ntmps121
  go_wp2_with (go_at_call 118; refine (c1.out _).mono ?_; rintro e w1 ⟨rfl, hb1⟩)
  go_ret
  exact ⟨rfl, hb1⟩

set_option maxRecDepth 100000 in
set_option maxHeartbeats 400000 in
/-- One number is written. -/
theorem listInt_one (x size : Int) (hs : isSizeB size = true) (h0 : 0 ≤ x) (h1 : x < 4294967296) (g b q : Nat) (s : ByteArray) (r : Option Nat) (w : World) (hw : Wr w 154 5 g s r) (hsz : s.size ≤ 65536)
    (hb : w.cell? ⟨b, 0, none⟩ = some (.int .i64 size)) (hq : w.cell? ⟨q, 0, none⟩ = some (.int .i64 x)) (s' : ByteArray) (k : Int) (hk : addPiece s (some (be size.toNat x.toNat)) = (s', k)) :
    Calls Try.prog 120 #[.pointer (some ⟨g, 0, none⟩), .slice (some ⟨q, 0, none⟩) 1 1, .func (.func 121) #[] #[.pointer (some ⟨b, 0, none⟩)]] w fun e w' =>
      ∃ r', e = .returned (.int .i64 k) ∧ Wr w' 154 5 g s' r' ∧ Fresh w r r' ∧ Turns w w' g r := by
  have c1 := hid (numTell_any x size hs h0 h1 b w hb)
  obtain ⟨i0, hi, hz0, hz1, hz2⟩ := info_parts Try.infoU8
  have hp0 : 1 ≤ (be size.toNat x.toNat).size ∧ (be size.toNat x.toNat).size ≤ 4 := by
    rw [be_size]
    have := size_lt hs
    omega
  clear h0 h1 hb hs
  generalize be size.toNat x.toNat = p at *
  obtain ⟨hp1, hp2⟩ := hp0
  obtain ⟨A, c, hH, hR, rfl, hrg⟩ := hw
  have hcell := hH.cell 0
  have hfr := hH.frozen 0
  simp at hcell
  by_cases hfit : s.size + p.size ≤ 65536
  · rw [addPiece_fits hfit] at hk
    obtain ⟨hs', rfl⟩ := Prod.mk.inj hk
    have hsp := hid hs'
    clear hk hs'
    go_enter Try.func120, Try.ntmps120
    go_wp2_with fail
    refine wp_loop_rounds 2 ?_
    rw [rounds_succ]
    go_wp2_with fail
    refine c1.out.mono ?_
    rintro e w1 ⟨rfl, hb1⟩
    have hH1 := hH.below hb1 hH.lt
    have hcell1 := hH1.cell 0
    have hfr1 := hH1.frozen 0
    simp at hcell1
    have hR1 := hR.keep hb1
    go_wp2_with (at_builtin; go_must (refine wpList_append_row rfl (.tmp 47) (.tmp 48) 62 9 rfl 5 i0 Try.underlying62 Try.underlying9 hi hz0 hz1 hz2 s p A c rfl rfl hR1 (by omega) s' hsp.out ?_); intro A2 c2 w2 hR2 hg2 hf2; have hH2 := hH1.grown hg2 hrg.symm; have hcell2 := hH2.cell 0; have hfr2 := hH2.frozen 0; simp at hcell2)
    rw [rounds_succ]
    go_wp2
    go_ret
    obtain ⟨a1, a2, a3⟩ := Wr.push hb1 hH1 hH.lt hrg hR2 hg2 hf2
    exact ⟨_, rfl, a1, a2, a3⟩
  · rw [addPiece_long hfit] at hk
    obtain ⟨rfl, rfl⟩ := Prod.mk.inj hk
    clear hk
    obtain ⟨q', rfl, hle⟩ := row_some hR (by omega)
    go_enter Try.func120, Try.ntmps120
    go_wp2_with fail
    refine wp_loop_rounds 2 ?_
    rw [rounds_succ]
    go_wp2_with fail
    refine c1.out.mono ?_
    rintro e w1 ⟨rfl, hb1⟩
    have hH1 := hH.below hb1 hH.lt
    have hcell1 := hH1.cell 0
    have hfr1 := hH1.frozen 0
    simp at hcell1
    go_wp2
    go_ret
    exact ⟨_, rfl, ⟨_, _, hH1.set 0 _, (hR.keep hb1).set hrg 0 _, rfl, hrg⟩, .inl rfl, (Turns.of_below hb1 g _).setCell 0 _⟩

end Go.Proofs.Ytapegklffglnoaa
