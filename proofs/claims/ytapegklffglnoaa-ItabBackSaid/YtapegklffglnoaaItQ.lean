/- Layer 14: ItabBack. -/
import Derived.Test.YtapegklffglnoaaItO
import Derived.Test.YtapegklffglnoaaItW
namespace Go.Proofs.Ytapegklffglnoaa
open Go.RowKit

set_option maxRecDepth 100000 in
set_option maxHeartbeats 8000000 in
theorem ItabBack_law {w : World} (A : Option Addr) (n c : Nat) (xs : List Ino) (hin : InosIn w A n c xs) (s : ByteArray) (_ : s.size ≤ maxLen) :
    Calls Try.prog 11 #[.slice A n c, .string s] w fun e w' => e = .returned (.bool true) ∧ Below w.heap.size w w' := by
  obtain ⟨hI, hnc, hn72⟩ := hin
  have hn : n ≤ 10000000000000 := by omega
  have hI0 := hid hI
  have hlen := hI.1
  have hfine := hid hI.2.1
  obtain ⟨sa, ea, hput⟩ : ∃ p q, putS xs = (p, q) := ⟨_, _, rfl⟩
  obtain ⟨R, x, hget⟩ : ∃ p q, getS s = (p, q) := ⟨_, _, rfl⟩
  have hback := putS_getS hget
  have hput' := hid hput
  have hget' := hid hget
  have hback' := hid hback
  clear hI hnc hn72 hput hget hback
  go_enter Try.func11, Try.ntmps11
  go_wp2_with fail
  refine (awake14_any _).mono ?_
  rintro e W1 ⟨rfl, hb⟩
  have hI1 := hid (hI0.out.below hb)
  have hB1 := hid hb
  clear hb
  go_wp2_with fail
  refine (itabPut_any A n c _ xs W1 hI1.out hB1.out.size hn sa ea hput'.out).mono ?_
  rintro e W2 ⟨rfl, hb⟩
  have hB2 := hid (hB1.out.trans (hb.mono hB1.out.size))
  have hI2 := hid (hI0.out.below hB2.out)
  have hM := hid (itabMay_any A n c _ xs W2 hI2.out hB2.out.size hn)
  clear hb
  cases hi : itabB xs with
  | true =>
    have hp := hput'.out
    rw [putS_yes hi] at hp
    obtain ⟨hsa, hea⟩ := Prod.mk.inj hp
    subst hea
    have hga := getS_putS hfine.out hi
    rw [hsa] at hga
    rw [hi] at hM
    have hga' := hid hga
    clear hp hsa hga hi
    go_wp2_with (go_at_call 16; refine (errNum_any _ _).mono ?_; rintro e w' ⟨rfl, rfl⟩)
    refine hM.out.mono ?_
    rintro e W3 ⟨rfl, hb⟩
    have hB3 := hid (hB2.out.trans (hb.mono hB2.out.size))
    clear hb
    go_wp2_with (go_at_call 16; refine (errNum_any _ _).mono ?_; rintro e w' ⟨rfl, rfl⟩)
    refine (itabGet_any sa xs 0 hga'.out W3).mono ?_
    rintro e W4 ⟨A4, c4, he, hown, hf4, hb⟩
    rw [hlen] at he hown
    subst he
    have hB4 := hid (hB3.out.trans (hb.mono hB3.out.size))
    have hI4 := hid (hI0.out.below hB4.out)
    have hJ4 := hid (show Inos W4 W4.heap.size A4 n xs from by
      have h := inos_of_own (xs := xs) (A := A4) (c := c4) (n0 := W3.heap.size) (w := W4) hf4 (by rw [hlen]; exact hown)
      rwa [hlen] at h)
    clear hb hown hf4
    go_wp2_with (go_at_call 16; refine (errNum_any _ _).mono ?_; rintro e w' ⟨rfl, rfl⟩)
    refine (sameInos_any A4 A n c4 c _ _ xs W4 hJ4.out hI4.out (Nat.le_refl _) hB4.out.size hn).mono ?_
    rintro e W5 ⟨rfl, hb⟩
    have hB5 := hid (hB4.out.trans (hb.mono hB4.out.size))
    clear hb hM hga'
    go_wp2_with fail
    refine (itabGet_any s R x hget'.out W5).mono ?_
    rintro e W6 ⟨A6, c6, rfl, hown, hf6, hb⟩
    have hB6 := hid (hB5.out.trans (hb.mono hB5.out.size))
    have hJ6 := hid (inos_of_own hf6 hown)
    clear hb hown hf6
    rcases hback'.out with ⟨rfl, hiR, hpR⟩ | ⟨rfl, rfl⟩
    · have hle := itab_len (itabB_of hiR)
      have hpR' := hid hpR
      clear hiR hpR
      go_wp2_with (go_at_call 16; refine (errNum_any _ _).mono ?_; rintro e w' ⟨rfl, rfl⟩)
      refine (itabPut_any A6 R.length c6 _ R W6 hJ6.out (Nat.le_refl _) (by omega) s 0 hpR'.out).mono ?_
      rintro e W7 ⟨rfl, hb⟩
      have hB7 := hid (hB6.out.trans (hb.mono hB6.out.size))
      clear hb
      go_wp2_with (go_at_call 16; refine (errNum_any _ _).mono ?_; rintro e w' ⟨rfl, rfl⟩)
      go_ret
      exact ⟨rfl, hB7.out⟩
    · go_wp2_with (go_at_call 16; refine (errNum_any _ _).mono ?_; rintro e w' ⟨rfl, rfl⟩)
      go_ret
      exact ⟨rfl, hB6.out⟩
  | false =>
    have hp := hput'.out
    rw [putS_no hi] at hp
    obtain ⟨hsa, hea⟩ := Prod.mk.inj hp
    subst hea
    rw [hi] at hM
    clear hp hsa hi
    go_wp2_with (go_at_call 16; refine (errNum_any _ _).mono ?_; rintro e w' ⟨rfl, rfl⟩)
    refine hM.out.mono ?_
    rintro e W5 ⟨rfl, hb⟩
    have hB5 := hid (hB2.out.trans (hb.mono hB2.out.size))
    clear hb hM
    go_wp2_with (go_at_call 16; refine (errNum_any _ _).mono ?_; rintro e w' ⟨rfl, rfl⟩)
    refine (itabGet_any s R x hget'.out W5).mono ?_
    rintro e W6 ⟨A6, c6, rfl, hown, hf6, hb⟩
    have hB6 := hid (hB5.out.trans (hb.mono hB5.out.size))
    have hJ6 := hid (inos_of_own hf6 hown)
    clear hb hown hf6
    rcases hback'.out with ⟨rfl, hiR, hpR⟩ | ⟨rfl, rfl⟩
    · have hle := itab_len (itabB_of hiR)
      have hpR' := hid hpR
      clear hiR hpR
      go_wp2_with (go_at_call 16; refine (errNum_any _ _).mono ?_; rintro e w' ⟨rfl, rfl⟩)
      refine (itabPut_any A6 R.length c6 _ R W6 hJ6.out (Nat.le_refl _) (by omega) s 0 hpR'.out).mono ?_
      rintro e W7 ⟨rfl, hb⟩
      have hB7 := hid (hB6.out.trans (hb.mono hB6.out.size))
      clear hb
      go_wp2_with (go_at_call 16; refine (errNum_any _ _).mono ?_; rintro e w' ⟨rfl, rfl⟩)
      go_ret
      exact ⟨rfl, hB7.out⟩
    · go_wp2_with (go_at_call 16; refine (errNum_any _ _).mono ?_; rintro e w' ⟨rfl, rfl⟩)
      go_ret
      exact ⟨rfl, hB6.out⟩

end Go.Proofs.Ytapegklffglnoaa
