/- Layer 14: the reference's GetItab. -/
import Derived.Test.YtapegklffglnoaaItM
import Derived.Test.YtapegklffglnoaaItR
namespace Go.Proofs.Ytapegklffglnoaa
open Go.RowKit
open Go.Lib (strCells strCells_length strCells_oneCell)

theorem own_keep {w w' : World} {n0 c k sz : Nat} {A : Option Addr} {t : TypeId} {cs : List Value} (h : w.ownsRow n0 t sz (.slice A k c) k cs) (hb : Below w.heap.size w w') : w'.ownsRow n0 t sz (.slice A k c) k cs := by
  have hlt := h.lt
  obtain ⟨h1, h2 | ⟨g, cap, cur, hv, hB, hh, rest⟩⟩ := h
  · exact ⟨h1, .inl h2⟩
  · refine ⟨h1, .inr ⟨g, cap, cur, hv, hB, ?_, rest⟩⟩
    rw [hb.block g (hlt g (by rw [hv]; rfl)).2]
    exact hh

set_option maxRecDepth 100000 in
set_option maxHeartbeats 8000000 in
theorem refGet_bad {s : ByteArray} (h : ¬ headOk s) (w : World) : Calls Try.prog 42 #[.string s] w (GetPost [] 1400 w) := by
  have hS := hid h
  clear h
  by_cases h2 : s.size < 2
  · have h2' : (s.size : Int) < 2 := by omega
    clear h2
    go_enter Try.func42, Try.ntmps42
    go_wp2_with fail
    go_ret2
    exact GetPost.nil (Below.refl _ _)
  · have h2' : ¬ (s.size : Int) < 2 := by omega
    have hz : 2 ≤ s.size := by omega
    have hz0 : 0 < s.size := by omega
    have hz1 : 1 < s.size := by omega
    have hzi : (1 : Int) < (s.size : Int) := by omega
    obtain ⟨n1, hn1⟩ : ∃ n1, (s[1]'hz1).toNat = n1 := ⟨_, rfl⟩
    have hn256 : n1 < 256 := by rw [← hn1]; exact (s[1]'hz1).toNat_lt
    have w1 := IntWalk.i64_in (n1 : Int) (by omega)
    have w2 := IntWalk.i64_in (38 * (n1 : Int)) (by omega)
    have w3 := IntWalk.i64_in (2 + 38 * (n1 : Int)) (by omega)
    clear h2
    by_cases hb0 : (s[0]'hz0).toNat = 84
    · have h3 : ¬ (s.size : Int) = 2 + 38 * (n1 : Int) := fun e => hS.out ⟨hz, by rw [getElem?_pos s 0 hz0]; exact congrArg some (UInt8.toNat_inj.1 hb0), by rw [getElem?_pos s 1 hz1]; show s.size = 2 + 38 * (s[1]'hz1).toNat; omega⟩
      have h3' : ((s.size : Int) != 2 + 38 * (n1 : Int)) = true := by simpa using h3
      clear h3
      go_enter Try.func42, Try.ntmps42
      go_wp2_with fail
      go_ret2
      exact GetPost.nil (Below.refl _ _)
    · have h3' : (((s[0]'hz0).toNat : Int) != 84) = true := by
        rw [bne_iff_ne]
        omega
      clear hb0
      go_enter Try.func42, Try.ntmps42
      go_wp2_with fail
      go_ret2
      exact GetPost.nil (Below.refl _ _)

end Go.Proofs.Ytapegklffglnoaa
