/- Lists of texts compared (folder almonrylaw0). -/
import Derived.Test.YtapegklffglnoaaTexts
import Derived.Deep.Quiet
namespace Go.Proofs.Ytapegklffglnoaa
open Go.RowKit

theorem At.new (w : World) (vs : List Value) (n : Nat) (e : TypeId) (cs : Array Value) (h : cs.toList = vs) (hn : vs.length = n) :
    At (w.alloc (.cells cs e)) (w.heap.size + 1) 1 (some ⟨w.heap.size, 0, none⟩) n vs := by
  subst hn h
  refine ⟨by simp, .inr ⟨_, rfl, Nat.lt_succ_self _, fun j hj => ?_⟩⟩
  have e0 : (⟨w.heap.size, 0, none⟩ : Addr).add j = ⟨w.heap.size, j, none⟩ := by
    unfold Addr.add
    by_cases h0 : j = 0 <;> simp [h0]
  have hj' : j < cs.size := by simpa using hj
  rw [e0, cell_of_row _ w.heap.size j cs e (0, 0) (heap_alloc_new w _), Array.getElem?_eq_getElem hj']
  simp

set_option maxHeartbeats 400000 in
theorem SameTexts_any (A : Option Addr) (n c : Nat) (xs : List ByteArray) (A' : Option Addr) (c' : Nat) (B : Nat) (w : World) (h : Texts w B A n xs) (hn : n ≤ 100000000000000) (h' : Texts w B A' n xs) :
    Calls Try.prog 15 #[.slice A n c, .slice A' n c'] w fun e w' => e = .returned (.bool true) ∧ ∃ m, w' = w.drewN m := by
  go_enter Try.func15, Try.ntmps15
  go_wp2
  go_loopw [5] (fun i wr => ∃ k m : Nat, k ≤ n ∧ i = .int .i64 k ∧ wr = w.drewN m) (fun i _ => n - (intOf i).toNat)
  case atStart => exact ⟨0, 0, Nat.zero_le _, rfl, rfl⟩
  case round =>
    obtain ⟨k, m, hk, rfl, rfl⟩ := hrel
    by_cases hlt : k < n
    · obtain ⟨p, rfl, hB, x, -, hx, hc⟩ := h.get hlt
      obtain ⟨p', rfl, hB', x', -, hx', hc'⟩ := h'.get hlt
      obtain rfl : x = x' := Option.some.inj (hx.symm.trans hx')
      have hkn : (k : Int) < (n : Int) := by omega
      clear hx hx'
      go_wp2
      go_quiet (fail)
      go_wp2
      go_roundw
      case rel => exact ⟨k + 1, _, by omega, by go_num, rfl⟩
      case measure => simp [intOf]; omega
    · obtain rfl : k = n := by omega
      go_wp2
      go_ret
      exact ⟨rfl, m, rfl⟩

end Go.Proofs.Ytapegklffglnoaa
