/- Layer 14: Itabs. -/
import Derived.Test.YtapegklffglnoaaItO
import Derived.Test.YtapegklffglnoaaItW
import Derived.Test.YtapegklffglnoaaItV
import Derived.Test.YtapegklffglnoaaItT
namespace Go.Proofs.Ytapegklffglnoaa
open Go.RowKit

set_option maxRecDepth 100000 in
set_option maxHeartbeats 8000000 in
theorem Itabs_law {w : World} (A : Option Addr) (n c : Nat) (xs : List Ino) (hin : InosIn w A n c xs) (s : ByteArray) (hS : s.size ≤ 140737488351232) :
    Calls Try.prog 10 #[.slice A n c, .string s] w fun e w' => e = .returned (.bool true) ∧ Below w.heap.size w w' := by
  have hin' := hid hin
  obtain ⟨hI, hnc, hn72, -⟩ := hin
  have hn : n ≤ 9000000000000 := by omega
  have hI0 := hid hI
  have hlen := hI.1
  obtain ⟨sa, ea, hput⟩ : ∃ p q, putS xs = (p, q) := ⟨_, _, rfl⟩
  obtain ⟨R, x, hget⟩ : ∃ p q, getS s = (p, q) := ⟨_, _, rfl⟩
  have hput' := hid hput
  have hget' := hid hget
  have hRl : R.length ≤ 10000000000000 := by
    rcases putS_getS hget with ⟨_, hi, _⟩ | ⟨_, rfl⟩
    · have := itab_len (itabB_of hi); omega
    · exact Nat.zero_le _
  have hRG := hid (show ∀ W, Calls Try.prog 42 #[.string s] W (GetPost R x W) from fun W => by
    by_cases hh : headOk s
    · exact refGet_ok hh hS R x hget W
    · have h1 := getS_bad hh
      rw [hget] at h1
      obtain ⟨rfl, rfl⟩ := Prod.mk.inj h1
      exact refGet_bad hh W)
  clear hI hnc hn72 hput hget
  go_enter Try.func10, Try.ntmps10
  go_wp2_with fail
  refine (LendInos_any A n c xs hin'.out).mono ?_
  rintro e W1 ⟨A', c', rfl, hc', hL, hb⟩
  have hL1 := hid hL
  have hB1 := hid hb
  have hn' : n ≤ 10000000000000 := by omega
  have hc'' := hid hc'
  clear hb hL hc'
  go_wp2_with fail
  refine (itabPut_any A' n c' W1.heap.size xs W1 (hL1.out.front hlen) (Nat.le_refl _) hn' sa ea hput'.out).mono ?_
  rintro e W2 ⟨rfl, hb⟩
  have hC2 := hid hb
  clear hb
  go_wp2_with fail
  refine (refPut_any A n c w.heap.size xs W2 (hI0.out.below (hB1.out.trans (hC2.out.mono hB1.out.size))) (Nat.le_trans hB1.out.size hC2.out.size) hn' sa ea hput'.out).mono ?_
  rintro e W3 ⟨rfl, hb⟩
  have hC3 := hid (hC2.out.trans (hb.mono hC2.out.size))
  clear hb
  go_wp2_with fail
  refine (itabGet_any s R x hget'.out W3).mono ?_
  rintro e W4 ⟨A4, c4, rfl, hown, hf4, hb⟩
  have hC4 := hid (hC3.out.trans (hb.mono hC3.out.size))
  have hJ4 := hid (inos_of_own hf4 hown)
  clear hb hown hf4
  go_wp2_with fail
  refine (hRG.out W4).mono ?_
  rintro e W5 ⟨A5, c5, rfl, hown, hf5, hb⟩
  have hC5 := hid (hC4.out.trans (hb.mono hC4.out.size))
  have hJ5 := hid (inos_of_own hf5 hown)
  have hK4 := hid (hJ4.out.below hb)
  have hle4 := hid hb.size
  clear hb hown hf5
  go_wp2_with (go_at_call 16; refine (errNum_any _ _).mono ?_; rintro e w' ⟨rfl, rfl⟩)
  refine (sameInos_any A4 A5 R.length c4 c5 _ _ R W5 hK4.out hJ5.out hle4.out (Nat.le_refl _) hRl).mono ?_
  rintro e W6 ⟨rfl, hb⟩
  have hC6 := hid (hC5.out.trans (hb.mono hC5.out.size))
  clear hb
  have m1 := hid (itabMay_any A' n c' W1.heap.size xs W6 ((hL1.out.front hlen).below hC6.out) hC6.out.size hn')
  go_wp2_with (go_at_call 16; refine (errNum_any _ _).mono ?_; rintro e w' ⟨rfl, rfl⟩)
  refine m1.out.mono ?_
  rintro e W7 ⟨rfl, hb⟩
  have hC7 := hid (hC6.out.trans (hb.mono hC6.out.size))
  clear hb
  have m2 := hid (refItabMay_any A n c w.heap.size xs W7 (hI0.out.below (hB1.out.trans (hC7.out.mono hB1.out.size))) (Nat.le_trans hB1.out.size hC7.out.size) hn')
  obtain ⟨bb, hbb⟩ : ∃ bb, itabB xs = bb := ⟨_, rfl⟩
  rw [hbb] at m2
  rw [hbb]
  clear hbb m1
  go_wp2_with fail
  refine m2.out.mono ?_
  rintro e W8 ⟨rfl, hb⟩
  have hC8 := hid (hC7.out.trans (hb.mono hC7.out.size))
  clear hb
  have hK8 := hid (hI0.out.below (hB1.out.trans (hC8.out.mono hB1.out.size)))
  have k1 := hid (KeptInos_any A' n c' xs A c W1.heap.size w.heap.size hK8.out hn hc''.out (hL1.out.below hC8.out) hC8.out.size (Nat.le_trans hB1.out.size hC8.out.size))
  clear m2
  have hbe : (bb == bb) = true := by simp
  go_wp2_with fail
  refine k1.out.mono ?_
  rintro e W9 ⟨rfl, hb⟩
  have hC9 := hid (hC8.out.trans (hb.mono hC8.out.size))
  clear hb k1
  go_wp2_with fail
  refine (awake14_any _).mono ?_
  rintro e W10 ⟨rfl, hb⟩
  have hC10 := hid (hC9.out.trans (hb.mono hC9.out.size))
  clear hb
  go_wp2_with fail
  go_ret
  exact ⟨rfl, hB1.out.trans (hC10.out.mono hB1.out.size)⟩

end Go.Proofs.Ytapegklffglnoaa
