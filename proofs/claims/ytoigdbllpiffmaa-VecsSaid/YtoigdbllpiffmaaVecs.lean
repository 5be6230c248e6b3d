/- Statement Vecs: its walk. -/
import Derived.Test.YtoigdbllpiffmaaRef18Vec
namespace Go.Proofs.Ytoigdbllpiffmaa
open Go.RowKit

set_option maxRecDepth 100000 in
set_option maxHeartbeats 4000000 in
theorem Vecs_law {w : World} (A0 : Option Addr) (n0 c0 : Nat) (xs : List Int) (w0 : IntsIn w A0 n0 c0 xs) (A1 : Option Addr) (n1 c1 : Nat) (ys : List Int) (w1 : IntsIn w A1 n1 c1 ys) :
    Calls Try.prog 3 #[.slice A0 n0 c0, .slice A1 n1 c1] w fun e w' => e = .returned (.bool true) ∧ Below w.heap.size w w' := by
  have w1' := w1
  obtain ⟨hx, hn0, hc0, hx2, hx3⟩ := w0
  obtain ⟨hy, hn1, hc1, hy2, hy3⟩ := w1
  have m0 : n0 ≤ maxLen := (by unfold maxLen; omega)
  have m1 : n1 ≤ maxLen := (by unfold maxLen; omega)
  go_enter Try.func3, Try.ntmps3
  go_wp2_with fail
  refine (LendInts_any A0 n0 c0 xs ⟨hx, hn0, hc0, hx2, hx3⟩).mono ?_
  rintro e W1 ⟨X, cx, rfl, hcx, hX, hb1⟩
  go_wp2_with fail
  refine (LendInts_any A1 n1 c1 ys ⟨(hy.below hb1).more hb1.size, hn1, hc1, hy2, hy3⟩).mono ?_
  rintro e W2 ⟨Y, cy, rfl, hcy, hY, hb2⟩
  have hB : Below w.heap.size w W2 := hb1.trans (hb2.mono hb1.size)
  have fx := (hx.below hB).more hB.size
  have fy := (hy.below hB).more hB.size
  have fX := (hX.below hb2).more hb2.size
  have gX := fX.front hx.len
  have gY := hY.front hy.len
  clear hx hy hX hb1 hb2 w1'
  obtain ⟨p, r1, eB⟩ : ∃ p r, belowAns xs ys = (p, r) := ⟨_, _, rfl⟩
  obtain ⟨zs, r2, eJ⟩ : ∃ p r, joinAns xs ys = (p, r) := ⟨_, _, rfl⟩
  obtain ⟨q, r3, eA⟩ : ∃ p r, apartAns xs ys = (p, r) := ⟨_, _, rfl⟩
  have eB := hid eB
  have eJ := hid eJ
  have eA := hid eA
  go_wp2_with fail
  refine (Below_any _ _ _ _ _ _ _ _ _ _ eB.out _ _ gX m0 gY m1).mono ?_
  rintro e W6 ⟨rfl, k1, rfl⟩
  go_wp2_with fail
  refine (RBelow_any _ _ _ _ _ _ _ _ _ _ eB.out _ _ (fx.drewN _) m0 (fy.drewN _) m1).mono ?_
  rintro e W6 ⟨rfl, k2, rfl⟩
  go_wp2_with fail
  refine (Join_any _ _ _ _ _ _ _ _ _ _ eJ.out _ (gX.drewN _) m0 (gY.drewN _) m1).mono ?_
  rintro e W3 ⟨A3, n3, c3, rfl, hj, hn3, hb3⟩
  have hB3 : Below w.heap.size w W3 := (below_drewN hB _).trans (hb3.mono hB.size)
  have hb3' : Below W2.heap.size W2 W3 := (below_drewN (Below.refl _ _) _).trans hb3
  have fx := (fx.below hb3').more hb3'.size
  have fy := (fy.below hb3').more hb3'.size
  have fX := (fX.below hb3').more hb3'.size
  have fY := (hY.below hb3').more hb3'.size
  have gX := (gX.below hb3').more hb3'.size
  have gY := (gY.below hb3').more hb3'.size
  clear hb3 hb3' hY hB
  go_wp2_with fail
  refine (RJoin_any _ _ _ _ _ _ _ _ _ _ eJ.out _ fx m0 fy m1).mono ?_
  rintro e W4 ⟨A4, n4, c4, rfl, hj4, hn4, hb4⟩
  have hB4 : Below w.heap.size w W4 := hB3.trans (hb4.mono hB3.size)
  have fx := (fx.below hb4).more hb4.size
  have fy := (fy.below hb4).more hb4.size
  have fX := (fX.below hb4).more hb4.size
  have fY := (fY.below hb4).more hb4.size
  have gX := (gX.below hb4).more hb4.size
  have gY := (gY.below hb4).more hb4.size
  have hj3 := (hj.below hb4).more hb4.size
  clear hb4 hB3 hj
  go_wp2_with fail
  refine (Apart_any _ _ _ _ _ _ _ _ _ _ eA.out _ _ gX m0 gY m1).mono ?_
  rintro e W6 ⟨rfl, k3, rfl⟩
  go_wp2_with fail
  refine (RApart_any _ _ _ _ _ _ _ _ _ _ eA.out _ _ (fx.drewN _) m0 (fy.drewN _) m1).mono ?_
  rintro e W6 ⟨rfl, k4, rfl⟩
  clear eA eB eJ
  go_wp2_with (go_at_call 23; refine (Num_any _ _).mono ?_; rintro e w' ⟨rfl, rfl⟩)
  refine (SameInts_any _ _ _ zs _ _ _ zs true (by simp) _ _ (hj3.drewN _) (small_maxLen (by omega)) (hj4.drewN _) (small_maxLen (by omega))).mono ?_
  rintro e W6 ⟨rfl, k5, rfl⟩
  go_wp2_with (go_at_call 23; refine (Num_any _ _).mono ?_; rintro e w' ⟨rfl, rfl⟩)
  generalize hb : vecMay xs = vm
  have eM := hid (fun k => may_any X n0 cx xs _ (W4.drewN k) (gX.drewN _) m0)
  have eN := hid (fun k => RVecMay_any A0 n0 c0 xs _ (W4.drewN k) (fx.drewN _) m0)
  rw [hb] at eM eN
  clear hb
  refine (eM.out _).mono ?_
  rintro e W6 ⟨he, rfl⟩
  subst he
  go_wp2_with fail
  refine (eN.out _).mono ?_
  rintro e W6 ⟨he, rfl⟩
  subst he
  go_wp2_with fail
  refine (KeptInts_any X n0 cx xs A0 c0 _ (fx.drewN _) (by omega) hcx (fX.drewN _)).mono ?_
  rintro e W6 ⟨rfl, k6, rfl⟩
  go_wp2_with fail
  refine (KeptInts_any Y n1 cy ys A1 c1 _ (fy.drewN _) (by omega) hcy (fY.drewN _)).mono ?_
  rintro e W6 ⟨rfl, k7, rfl⟩
  go_wp2_with fail
  refine (awake18_any _).mono ?_
  rintro e W7 ⟨rfl, hb7⟩
  go_wp2
  go_ret
  exact ⟨rfl, (below_drewN hB4 _).trans (hb7.mono hB4.size)⟩

end Go.Proofs.Ytoigdbllpiffmaa
