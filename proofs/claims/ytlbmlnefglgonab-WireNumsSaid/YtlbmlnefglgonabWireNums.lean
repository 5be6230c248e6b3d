/- The statement WireNums: its walk. -/
import Derived.Test.YtlbmlnefglgonabAwake3
namespace Go.Proofs.Ytlbmlnefglgonab
open Go.RowKit

theorem be_last (n x : Nat) (h : n + 1 - 1 < (be (n + 1) x).size) : ((be (n + 1) x)[n + 1 - 1]'h).toNat = x % 256 := by
  have e : (be (n + 1) x)[n + 1 - 1]'h = (beL (n + 1) x)[n + 1 - 1]'(by rw [beL_length]; omega) := rfl
  rw [e]
  simp [beL]

theorem and255 (x : Int) (h0 : 0 ≤ x) (h1 : x < 4294967296) : bits .and .i64 x 255 = x % 256 := by
  obtain ⟨n, rfl⟩ : ∃ n : Nat, x = n := ⟨x.toNat, by omega⟩
  show IntKind.i64.wrap ((BitVec.ofInt 64 (n : Int) &&& BitVec.ofInt 64 255).toNat : Int) = _
  have h255 : BitVec.ofInt 64 255 = 255#64 := by decide
  rw [BitVec.ofInt_natCast, h255, BitVec.toNat_and, BitVec.toNat_ofNat, Nat.mod_eq_of_lt (by omega)]
  have e : (255#64 : BitVec 64).toNat = 2 ^ 8 - 1 := by decide
  rw [e, Nat.and_two_pow_sub_one_eq_mod, IntWalk.i64_in _ (by omega)]
  omega

theorem fits_lt {x size : Int} (hf : fitsB x size = true) : x < 4294967296 := by
  obtain ⟨hs, h0, hx⟩ := fitsB_yes hf
  exact Int.lt_of_lt_of_le hx (size_lt hs).2.2

theorem nums_piece (x size : Int) (n : Nat) (hn : size.toNat = n) (hf : fitsB x size = true) (h1 : 1 ≤ n) :
    ∃ p : ByteArray, p.size = n ∧ addPiece ByteArray.empty (numPiece x size) = (p, 0) ∧ readNum p size = (x, 0, ByteArray.empty) ∧ ∀ h, ((p[n - 1]'h).toNat : Int) = x % 256 := by
  obtain ⟨hs, h0, hx⟩ := fitsB_yes hf
  have h4 := size_lt hs
  subst hn
  refine ⟨be size.toNat x.toNat, be_size .., ?_, ?_, ?_⟩
  · rw [numPiece, if_pos hf, addPiece_fits, empty_append]
    rw [be_size]
    show 0 + _ ≤ _
    omega
  · have := readNum_back x size ByteArray.empty hf
    rwa [append_empty] at this
  · intro h
    obtain ⟨m, hm⟩ : ∃ m, size.toNat = m + 1 := ⟨size.toNat - 1, by omega⟩
    have := be_last m x.toNat
    rw [← hm] at this
    rw [this]
    omega

set_option maxRecDepth 100000 in
set_option maxHeartbeats 4000000 in
theorem WireNums_law (x : Int) (_wx : (Lit.int .i64 x).wf = true) (w : World) :
    Calls Try.prog 7 #[.int .i64 x] w fun e w' => e = .returned (.bool true) ∧ Below w.heap.size w w' := by
  go_enter Try.func7, Try.ntmps7
  go_wp2_with fail
  refine (awake3_any _).mono ?_
  rintro e W0 ⟨rfl, hB0⟩
  go_wp2_with fail
  go_loopw [3] (fun i wr => ∃ k : Nat, k ≤ 3 ∧ i = .int .i64 k ∧ Below w.heap.size w wr) (fun i _ => 3 - (intOf i).toNat)
  case atStart => exact ⟨0, Nat.zero_le _, rfl, hB0⟩
  case round =>
  obtain ⟨k, hk, rfl, hB⟩ := hrel
  by_cases hlt : k < 3
  · have hk3 : k = 0 ∨ k = 1 ∨ k = 2 := by omega
    clear hk hlt hB0
    rcases hk3 with rfl | rfl | rfl
    · -- size 1
      have hB' := hid hB
      clear hB
      by_cases h0 : 0 ≤ x
      · have hfit := fits_small x 1 h0 (by decide) (m := 256)
        cases hf : fitsB x 1 with
        | false =>
          have hp : addPiece ByteArray.empty (numPiece x 1) = (ByteArray.empty, 301) := by simp [numPiece, hf, addPiece_none]
          rw [hf] at hfit
          have hp' := hid hp
          clear hp hf
          go_wp2_with fail
          refine (wireNewB _ w.heap.size hB'.out.size).mono ?_
          rintro e W1 ⟨rfl, h1, b1⟩
          go_wp2_with fail
          refine (WNumB x 1 _ _ _ _ h1 (by decide) _ _ hp'.out).mono ?_
          rintro e W2 ⟨rfl, h2, b2⟩
          have hB2 := hid (hB'.out.trans ((b1.mono hB'.out.size).trans b2))
          clear h1 b1 b2
          go_wp2_with (first | (go_at_call 15; refine (errNum_any _ _).mono ?_; rintro e w' ⟨rfl, rfl⟩) | (go_at_call 21; refine (WAllB _ _ _ _ h2).mono ?_; rintro e w' ⟨rfl, rfl⟩))
          go_roundw
          case rel => exact ⟨1, by omega, rfl, hB2.out⟩
          case measure => simp [intOf]
        | true =>
          obtain ⟨p, hz, hp0, hr0, hl⟩ := nums_piece x 1 1 rfl hf (by decide)
          have hand := and255 x h0 (fits_lt hf)
          rw [hf] at hfit
          have hp' := hid hp0
          have hr' := hid hr0
          clear hp0 hf hr0
          go_wp2_with fail
          refine (wireNewB _ w.heap.size hB'.out.size).mono ?_
          rintro e W1 ⟨rfl, h1, b1⟩
          go_wp2_with fail
          refine (WNumB x 1 _ _ _ _ h1 (by decide) _ _ hp'.out).mono ?_
          rintro e W2 ⟨rfl, h2, b2⟩
          have hB2 := hid (hB'.out.trans ((b1.mono hB'.out.size).trans b2))
          clear h1 b1 b2
          go_wp2_with (first | (go_at_call 15; refine (errNum_any _ _).mono ?_; rintro e w' ⟨rfl, rfl⟩) | (go_at_call 21; refine (WAllB _ _ _ _ h2).mono ?_; rintro e w' ⟨rfl, rfl⟩))
          have hh2 := h2.1
          refine (wireOpenB _ _ w.heap.size hh2).mono ?_
          rintro e W3 ⟨rfl, h3, b3⟩
          go_wp2_with fail
          refine (RNumB _ _ _ 1 _ h3 _ _ _ hr'.out).mono ?_
          rintro e W4 ⟨rfl, h4, b4⟩
          have hB4 := hid (hB2.out.trans ((b3.mono hh2).trans b4))
          clear h2 h3 h4 b3 b4 hB2 hB'
          go_wp2_with (first | (go_at_call 15; refine (errNum_any _ _).mono ?_; rintro e w' ⟨rfl, rfl⟩))
          go_roundw
          case rel => exact ⟨1, by omega, rfl, hB4.out⟩
          case measure => simp [intOf]
      · have hf : fitsB x 1 = false := by simp [fitsB]; omega
        have hp : addPiece ByteArray.empty (numPiece x 1) = (ByteArray.empty, 301) := by simp [numPiece, hf, addPiece_none]
        have hp' := hid hp
        clear hp hf
        go_wp2_with fail
        refine (wireNewB _ w.heap.size hB'.out.size).mono ?_
        rintro e W1 ⟨rfl, h1, b1⟩
        go_wp2_with fail
        refine (WNumB x 1 _ _ _ _ h1 (by decide) _ _ hp'.out).mono ?_
        rintro e W2 ⟨rfl, h2, b2⟩
        have hB2 := hid (hB'.out.trans ((b1.mono hB'.out.size).trans b2))
        clear h1 b1 b2
        go_wp2_with (first | (go_at_call 15; refine (errNum_any _ _).mono ?_; rintro e w' ⟨rfl, rfl⟩) | (go_at_call 21; refine (WAllB _ _ _ _ h2).mono ?_; rintro e w' ⟨rfl, rfl⟩))
        go_roundw
        case rel => exact ⟨1, by omega, rfl, hB2.out⟩
        case measure => simp [intOf]
    · -- size 2
      have hB' := hid hB
      clear hB
      by_cases h0 : 0 ≤ x
      · have hfit := fits_small x 2 h0 (by decide) (m := 65536)
        cases hf : fitsB x 2 with
        | false =>
          have hp : addPiece ByteArray.empty (numPiece x 2) = (ByteArray.empty, 301) := by simp [numPiece, hf, addPiece_none]
          rw [hf] at hfit
          have hp' := hid hp
          clear hp hf
          go_wp2_with fail
          refine (wireNewB _ w.heap.size hB'.out.size).mono ?_
          rintro e W1 ⟨rfl, h1, b1⟩
          go_wp2_with fail
          refine (WNumB x 2 _ _ _ _ h1 (by decide) _ _ hp'.out).mono ?_
          rintro e W2 ⟨rfl, h2, b2⟩
          have hB2 := hid (hB'.out.trans ((b1.mono hB'.out.size).trans b2))
          clear h1 b1 b2
          go_wp2_with (first | (go_at_call 15; refine (errNum_any _ _).mono ?_; rintro e w' ⟨rfl, rfl⟩) | (go_at_call 21; refine (WAllB _ _ _ _ h2).mono ?_; rintro e w' ⟨rfl, rfl⟩))
          go_roundw
          case rel => exact ⟨2, by omega, rfl, hB2.out⟩
          case measure => simp [intOf]
        | true =>
          obtain ⟨p, hz, hp0, hr0, hl⟩ := nums_piece x 2 2 rfl hf (by decide)
          have hand := and255 x h0 (fits_lt hf)
          rw [hf] at hfit
          have hp' := hid hp0
          have hr' := hid hr0
          clear hp0 hf hr0
          go_wp2_with fail
          refine (wireNewB _ w.heap.size hB'.out.size).mono ?_
          rintro e W1 ⟨rfl, h1, b1⟩
          go_wp2_with fail
          refine (WNumB x 2 _ _ _ _ h1 (by decide) _ _ hp'.out).mono ?_
          rintro e W2 ⟨rfl, h2, b2⟩
          have hB2 := hid (hB'.out.trans ((b1.mono hB'.out.size).trans b2))
          clear h1 b1 b2
          go_wp2_with (first | (go_at_call 15; refine (errNum_any _ _).mono ?_; rintro e w' ⟨rfl, rfl⟩) | (go_at_call 21; refine (WAllB _ _ _ _ h2).mono ?_; rintro e w' ⟨rfl, rfl⟩))
          have hh2 := h2.1
          refine (wireOpenB _ _ w.heap.size hh2).mono ?_
          rintro e W3 ⟨rfl, h3, b3⟩
          go_wp2_with fail
          refine (RNumB _ _ _ 2 _ h3 _ _ _ hr'.out).mono ?_
          rintro e W4 ⟨rfl, h4, b4⟩
          have hB4 := hid (hB2.out.trans ((b3.mono hh2).trans b4))
          clear h2 h3 h4 b3 b4 hB2 hB'
          go_wp2_with (first | (go_at_call 15; refine (errNum_any _ _).mono ?_; rintro e w' ⟨rfl, rfl⟩))
          go_roundw
          case rel => exact ⟨2, by omega, rfl, hB4.out⟩
          case measure => simp [intOf]
      · have hf : fitsB x 2 = false := by simp [fitsB]; omega
        have hp : addPiece ByteArray.empty (numPiece x 2) = (ByteArray.empty, 301) := by simp [numPiece, hf, addPiece_none]
        have hp' := hid hp
        clear hp hf
        go_wp2_with fail
        refine (wireNewB _ w.heap.size hB'.out.size).mono ?_
        rintro e W1 ⟨rfl, h1, b1⟩
        go_wp2_with fail
        refine (WNumB x 2 _ _ _ _ h1 (by decide) _ _ hp'.out).mono ?_
        rintro e W2 ⟨rfl, h2, b2⟩
        have hB2 := hid (hB'.out.trans ((b1.mono hB'.out.size).trans b2))
        clear h1 b1 b2
        go_wp2_with (first | (go_at_call 15; refine (errNum_any _ _).mono ?_; rintro e w' ⟨rfl, rfl⟩) | (go_at_call 21; refine (WAllB _ _ _ _ h2).mono ?_; rintro e w' ⟨rfl, rfl⟩))
        go_roundw
        case rel => exact ⟨2, by omega, rfl, hB2.out⟩
        case measure => simp [intOf]
    · -- size 4
      have hB' := hid hB
      clear hB
      by_cases h0 : 0 ≤ x
      · have hfit := fits_small x 4 h0 (by decide) (m := 4294967296)
        cases hf : fitsB x 4 with
        | false =>
          have hp : addPiece ByteArray.empty (numPiece x 4) = (ByteArray.empty, 301) := by simp [numPiece, hf, addPiece_none]
          rw [hf] at hfit
          have hp' := hid hp
          clear hp hf
          go_wp2_with fail
          refine (wireNewB _ w.heap.size hB'.out.size).mono ?_
          rintro e W1 ⟨rfl, h1, b1⟩
          go_wp2_with fail
          refine (WNumB x 4 _ _ _ _ h1 (by decide) _ _ hp'.out).mono ?_
          rintro e W2 ⟨rfl, h2, b2⟩
          have hB2 := hid (hB'.out.trans ((b1.mono hB'.out.size).trans b2))
          clear h1 b1 b2
          go_wp2_with (first | (go_at_call 15; refine (errNum_any _ _).mono ?_; rintro e w' ⟨rfl, rfl⟩) | (go_at_call 21; refine (WAllB _ _ _ _ h2).mono ?_; rintro e w' ⟨rfl, rfl⟩))
          go_roundw
          case rel => exact ⟨3, by omega, rfl, hB2.out⟩
          case measure => simp [intOf]
        | true =>
          obtain ⟨p, hz, hp0, hr0, hl⟩ := nums_piece x 4 4 rfl hf (by decide)
          have hand := and255 x h0 (fits_lt hf)
          rw [hf] at hfit
          have hp' := hid hp0
          have hr' := hid hr0
          clear hp0 hf hr0
          go_wp2_with fail
          refine (wireNewB _ w.heap.size hB'.out.size).mono ?_
          rintro e W1 ⟨rfl, h1, b1⟩
          go_wp2_with fail
          refine (WNumB x 4 _ _ _ _ h1 (by decide) _ _ hp'.out).mono ?_
          rintro e W2 ⟨rfl, h2, b2⟩
          have hB2 := hid (hB'.out.trans ((b1.mono hB'.out.size).trans b2))
          clear h1 b1 b2
          go_wp2_with (first | (go_at_call 15; refine (errNum_any _ _).mono ?_; rintro e w' ⟨rfl, rfl⟩) | (go_at_call 21; refine (WAllB _ _ _ _ h2).mono ?_; rintro e w' ⟨rfl, rfl⟩))
          have hh2 := h2.1
          refine (wireOpenB _ _ w.heap.size hh2).mono ?_
          rintro e W3 ⟨rfl, h3, b3⟩
          go_wp2_with fail
          refine (RNumB _ _ _ 4 _ h3 _ _ _ hr'.out).mono ?_
          rintro e W4 ⟨rfl, h4, b4⟩
          have hB4 := hid (hB2.out.trans ((b3.mono hh2).trans b4))
          clear h2 h3 h4 b3 b4 hB2 hB'
          go_wp2_with (first | (go_at_call 15; refine (errNum_any _ _).mono ?_; rintro e w' ⟨rfl, rfl⟩))
          go_roundw
          case rel => exact ⟨3, by omega, rfl, hB4.out⟩
          case measure => simp [intOf]
      · have hf : fitsB x 4 = false := by simp [fitsB]; omega
        have hp : addPiece ByteArray.empty (numPiece x 4) = (ByteArray.empty, 301) := by simp [numPiece, hf, addPiece_none]
        have hp' := hid hp
        clear hp hf
        go_wp2_with fail
        refine (wireNewB _ w.heap.size hB'.out.size).mono ?_
        rintro e W1 ⟨rfl, h1, b1⟩
        go_wp2_with fail
        refine (WNumB x 4 _ _ _ _ h1 (by decide) _ _ hp'.out).mono ?_
        rintro e W2 ⟨rfl, h2, b2⟩
        have hB2 := hid (hB'.out.trans ((b1.mono hB'.out.size).trans b2))
        clear h1 b1 b2
        go_wp2_with (first | (go_at_call 15; refine (errNum_any _ _).mono ?_; rintro e w' ⟨rfl, rfl⟩) | (go_at_call 21; refine (WAllB _ _ _ _ h2).mono ?_; rintro e w' ⟨rfl, rfl⟩))
        go_roundw
        case rel => exact ⟨3, by omega, rfl, hB2.out⟩
        case measure => simp [intOf]
  · obtain rfl : k = 3 := by omega
    have hB' := hid hB
    clear hB hk hlt hB0
    go_wp2_with fail
    refine (wireNewB _ w.heap.size hB'.out.size).mono ?_
    rintro e W1 ⟨rfl, h1, b1⟩
    go_wp2_with fail
    refine (WNumB 1 3 _ _ _ _ h1 (by decide) ByteArray.empty 301 (by decide +kernel)).mono ?_
    rintro e W2 ⟨rfl, h2, b2⟩
    have hB2 := hB'.out.trans ((b1.mono hB'.out.size).trans b2)
    clear h1 b1 b2
    go_wp2_with fail
    refine (wireOpenB _ _ w.heap.size h2.1).mono ?_
    rintro e W3 ⟨rfl, h3, b3⟩
    go_wp2_with fail
    refine (RNumB _ _ _ 8 _ h3 0 301 ⟨#[97, 98, 99, 100, 101, 102, 103, 104]⟩ (by decide +kernel)).mono ?_
    rintro e W4 ⟨rfl, h4, b4⟩
    have hB4 := hB2.trans ((b3.mono h2.1).trans b4)
    clear h2 h3 h4 b3 b4 hB2 hB'
    go_wp2_with (first | (go_at_call 15; refine (errNum_any _ _).mono ?_; rintro e w' ⟨rfl, rfl⟩))
    go_ret
    exact ⟨rfl, hB4⟩

end Go.Proofs.Ytlbmlnefglgonab
