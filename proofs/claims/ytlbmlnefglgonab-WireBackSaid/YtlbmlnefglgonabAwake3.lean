/- Layer 3's statements: what every program answers that is one. -/
import Derived.Test.YtlbmlnefglgonabWireB
import Derived.Test.YtlbmlnefglgonabNum0
namespace Go.Proofs.Ytlbmlnefglgonab
open Go.RowKit

set_option maxRecDepth 100000 in
set_option maxHeartbeats 1000000 in
theorem awake3_any (w : World) : Calls Try.prog 23 #[] w fun e w' => e = .returned (.bool true) ∧ Below w.heap.size w w' := by
  go_enter Try.func23, Try.ntmps23
  go_wp2_with fail
  refine (wireNewB _ w.heap.size (Nat.le_refl _)).mono ?_
  rintro e W1 ⟨rfl, h1, b1⟩
  go_wp2_with fail
  refine (WNumB 258 2 _ _ _ _ h1 (by decide) ⟨#[1, 2]⟩ 0 (by decide +kernel)).mono ?_
  rintro e W2 ⟨rfl, h2, b2⟩
  go_wp2_with fail
  refine (WTextB ⟨#[97, 98]⟩ (by decide) 1 _ _ _ _ h2 (by decide) ⟨#[1, 2, 2, 97, 98]⟩ 0 (by decide +kernel)).mono ?_
  rintro e W3 ⟨rfl, h3, b3⟩
  go_wp2_with fail
  refine (WNumB 256 1 _ _ _ _ h3 (by decide) ⟨#[1, 2, 2, 97, 98]⟩ 301 (by decide +kernel)).mono ?_
  rintro e W4 ⟨rfl, h4, b4⟩
  go_wp2_with fail
  refine (WAllB _ _ _ _ h4).mono ?_
  rintro e w' ⟨rfl, rfl⟩
  go_wp2_with fail
  refine (wireOpenB _ _ w.heap.size h4.1).mono ?_
  rintro e W5 ⟨rfl, h5, b5⟩
  go_wp2_with fail
  refine (RNumB _ _ _ 2 _ h5 258 0 ⟨#[2, 97, 98]⟩ (by decide +kernel)).mono ?_
  rintro e W6 ⟨rfl, h6, b6⟩
  go_wp2_with fail
  refine (RTextB _ _ _ (by decide) 1 _ h6 ⟨#[97, 98]⟩ 0 ⟨#[]⟩ (by decide +kernel)).mono ?_
  rintro e W7 ⟨rfl, h7, b7⟩
  go_wp2_with fail
  refine (RNumB _ _ _ 4 _ h7 0 300 ⟨#[]⟩ (by decide +kernel)).mono ?_
  rintro e W8 ⟨rfl, h8, b8⟩
  have hb : Below w.heap.size w W8 := b1.trans (b2.trans (b3.trans (b4.trans ((b5.mono h4.1).trans (b6.trans (b7.trans b8))))))
  clear h1 h2 h3 h4 h5 h6 h7 b1 b2 b3 b4 b5 b6 b7 b8
  go_wp2_with (first | (go_at_call 15; refine (errNum_any _ _).mono ?_; rintro e w' ⟨rfl, rfl⟩) | (go_at_call 31; refine (RLeftB _ _ _ _ h8).mono ?_; rintro e w' ⟨rfl, rfl⟩))
  go_ret
  exact ⟨rfl, hb⟩

end Go.Proofs.Ytlbmlnefglgonab
