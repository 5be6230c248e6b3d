/- The statements' own helpers on numbers and lists of numbers (folder almonrylaw0). -/
import Derived.Test.YtoigdbllpiffmaaRows
import Derived.Test.YtoigdbllpiffmaaWords
namespace Go.Proofs.Ytoigdbllpiffmaa
open Go.RowKit

theorem Num_any (x : Int) (w : World) : Calls Try.prog 23 #[.int .i64 x] w fun e w' => e = .returned (.int .i64 x) ∧ w' = w := by
  go_enter Try.func23, Try.ntmps23
  go_wp2
  go_ret
  exact ⟨rfl, rfl⟩

theorem same_not (xs ys : List Int) (k : Nat) (h : ¬ xs[k]?.getD 0 = ys[k]?.getD 0) : decide (xs = ys) = false := by
  rw [decide_eq_false_iff_not]
  rintro rfl
  exact h rfl

def sameTo (xs ys : List Int) (k : Nat) : Prop := ∀ j, j < k → xs[j]?.getD 0 = ys[j]?.getD 0

theorem same_yes (xs ys : List Int) (hl : xs.length = ys.length) (h : sameTo xs ys xs.length) : decide (xs = ys) = true := by
  rw [decide_eq_true_eq]
  refine List.ext_getElem hl fun j h1 h2 => ?_
  have := h j h1
  simpa [List.getElem?_eq_getElem h1, List.getElem?_eq_getElem h2] using this

theorem sameTo_next {xs ys : List Int} {k : Nat} (h : sameTo xs ys k) (hk : xs[k]?.getD 0 = ys[k]?.getD 0) : sameTo xs ys (k + 1) := fun j hj => by
  by_cases e : j = k
  · subst e
    exact hk
  · exact h j (by omega)

set_option maxHeartbeats 400000 in
theorem SameInts_any (A : Option Addr) (n c : Nat) (xs : List Int) (A' : Option Addr) (n' c' : Nat) (ys : List Int) (b : Bool) (hr : decide (xs = ys) = b) (B : Nat) (w : World) (h : Ints w B A n xs) (hn : n ≤ maxLen) (h' : Ints w B A' n' ys) (hn' : n' ≤ maxLen) :
    Calls Try.prog 24 #[.slice A n c, .slice A' n' c'] w fun e w' => e = .returned (.bool b) ∧ ∃ m, w' = w.drewN m := by
  have hlen := hid h.len
  have hlen' := hid h'.len
  have hr' := hid hr
  clear hr
  unfold maxLen at hn hn'
  go_enter Try.func24, Try.ntmps24
  by_cases hnn : n = n'
  · subst hnn
    go_wp2
    go_loopw [5] (fun i wr => ∃ k m : Nat, k ≤ n ∧ i = .int .i64 k ∧ Hid (sameTo xs ys k) ∧ wr = w.drewN m) (fun i _ => n - (intOf i).toNat)
    case atStart => exact ⟨0, 0, Nat.zero_le _, rfl, fun j hj => absurd hj (by omega), rfl⟩
    case round =>
      obtain ⟨k, m, hk, rfl, hin, rfl⟩ := hrel
      by_cases hlt : k < n
      · obtain ⟨p, rfl, hB, hc⟩ := h.get hlt
        obtain ⟨p', rfl, hB', hc'⟩ := h'.get hlt
        go_wp2
        go_quiet (fail)
        by_cases hq : xs[k]?.getD 0 = ys[k]?.getD 0
        · go_wp2
          go_roundw
          case rel => exact ⟨k + 1, _, by omega, by go_num, sameTo_next hin.out hq, rfl⟩
          case measure => simp [intOf]; omega
        · go_wp2
          go_ret
          exact ⟨congrArg (fun b => Ending.returned (.bool b)) ((same_not xs ys k hq).symm.trans hr'.out), _, World.drewN_drewN ..⟩
      · go_wp2
        go_ret
        refine ⟨congrArg (fun b => Ending.returned (.bool b)) ((same_yes xs ys (by rw [hlen.out, hlen'.out]) ?_).symm.trans hr'.out), m, rfl⟩
        obtain rfl : k = xs.length := by have := hlen.out; omega
        exact hin.out
  · go_wp2
    go_ret
    refine ⟨congrArg (fun b => Ending.returned (.bool b)) (Eq.trans ?_ hr'.out), 0, rfl⟩
    symm
    rw [decide_eq_false_iff_not]
    rintro rfl
    exact hnn (by rw [← hlen.out, ← hlen'.out])

end Go.Proofs.Ytoigdbllpiffmaa
