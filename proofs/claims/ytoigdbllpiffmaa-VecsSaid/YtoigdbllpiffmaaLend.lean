/- Lists of numbers that are lent with marked room behind them (folder almonrylaw0). -/
import Derived.Test.YtoigdbllpiffmaaPlain
namespace Go.Proofs.Ytoigdbllpiffmaa
open Go.RowKit

theorem Try.infoInt' : (Try.prog.info? 3).map (fun i => (i.zero, i.size, i.bytes)) = some (some (.int .i64 0), 1, 8) := by kernel_rfl

theorem i64s_one (xs : List Int) : ∀ u ∈ i64s xs, u.oneCell' = true := by
  intro u hu
  unfold i64s at hu
  obtain ⟨x, _, rfl⟩ := List.mem_map.1 hu
  rfl

theorem i64s_append (xs ys : List Int) : i64s (xs ++ ys) = i64s xs ++ i64s ys := by simp [i64s]

set_option maxHeartbeats 400000 in
theorem CopyInts_any {w : World} (A : Option Addr) (n c : Nat) (xs : List Int) (h : IntsIn w A n c xs) :
    Calls Try.prog 63 #[.slice A n c] w fun e w' => ∃ A' c', e = .returned (.slice A' n c') ∧ w'.ownsRow w.heap.size 3 1 (.slice A' n c') n (i64s xs) ∧ Below w.heap.size w w' := by
  obtain ⟨hx, hn, hc, hnil, _⟩ := h
  obtain ⟨i0, hi, hz0, hz1, hz2⟩ := info_parts Try.infoInt'
  go_enter Try.func63, Try.ntmps63
  go_wp2_with (at_builtin; refine wpList_appends rfl (.tmp 3) (.tmp 4) 22 3 rfl w.heap.size i0 (.int .i64 0) 1 8 Try.underlying22 hi hz0 hz1 hz2 rfl (by decide) (some ⟨w.heap.size, 0, none⟩) 0 0 [] w.heap.size A n c (i64s xs) rfl rfl hnil (i64s_one _) (by omega) (by omega) ?_ ?_ (by first | (simp; done) | (simp; omega) | omega) ?_; rotate_right; intro A6 c6 w1 hown1 hb1 hg1; rotate_left; (exact World.ownsRow_lit w #[] 0 (Nat.le_refl _) (by decide) rfl); (exact At.alloc hx (Nat.le_refl _) _))
  go_ret
  rw [Nat.zero_add, List.nil_append] at hown1
  exact ⟨_, _, rfl, hown1, ((Below.refl _ _).alloc (Nat.le_refl _) _).trans hb1⟩

set_option maxRecDepth 100000 in
set_option maxHeartbeats 400000 in
theorem LendInts_any {w : World} (A : Option Addr) (n c : Nat) (xs : List Int) (h : IntsIn w A n c xs) :
    Calls Try.prog 16 #[.slice A n c] w fun e w' => ∃ A' c', e = .returned (.slice A' n c') ∧ n + 2 ≤ c' ∧ Ints w' w'.heap.size A' (n + 2) (xs ++ [-7777, -8888]) ∧ Below w.heap.size w w' := by
  have h0 := h
  obtain ⟨hx, hn, hc, hnil, _⟩ := h
  obtain ⟨i0, hi, hz0, hz1, hz2⟩ := info_parts Try.infoInt'
  go_enter Try.func16, Try.ntmps16
  go_wp2_with fail
  refine (CopyInts_any A n c xs h0).mono ?_
  rintro e w1 ⟨A1, c1, rfl, hown, hb⟩
  have hsz := hb.size
  go_wp2_with (at_builtin; refine wpList_appends rfl (.tmp 5) (.tmp 6) 22 3 rfl w.heap.size i0 (.int .i64 0) 1 8 Try.underlying22 hi hz0 hz1 hz2 rfl (by decide) A1 n c1 (i64s xs) (w1.heap.size + 1) (some ⟨w1.heap.size, 0, none⟩) 2 2 (i64s [-7777, -8888]) rfl rfl (fun h => by cases h) (i64s_one _) (by omega) (by omega) ?_ ?_ (by first | (simp; done) | (simp; omega) | omega) ?_; rotate_right; intro A6 c6 w2 hown2 hb2 hg2; rotate_left; (exact hown.alloc _); (exact Ints.new _ _ _ _ _ rfl rfl); have hc6 := own_cap hown2)
  go_ret
  refine ⟨_, _, rfl, own_cap hown2, ?_, ?_⟩
  · unfold Ints
    rw [i64s_append]
    exact At.of_own hown2
  · exact (hb.alloc hsz _).trans hb2

/-- Two numbers behind. -/
theorem lent_get (xs : List Int) (n : Nat) (h : xs.length = n) : (xs ++ [-7777, -8888]).getD n 0 = -7777 ∧ (xs ++ [-7777, -8888]).getD (n + 1) 0 = -8888 := by
  subst h
  constructor <;> simp

theorem Ints.front {w : World} {B n : Nat} {A : Option Addr} {xs ys : List Int} (h : Ints w B A (n + 2) (xs ++ ys)) (hl : xs.length = n) : Ints w B A n xs := by
  subst hl
  obtain ⟨hlen, h0 | ⟨p, hp, hB, hc⟩⟩ := h
  · omega
  · refine ⟨by rw [i64s_length, Nat.mul_one], .inr ⟨p, hp, hB, fun j hj => ?_⟩⟩
    have hj2 : j < (i64s (xs ++ ys)).length := by
      rw [i64s_length] at hj ⊢
      simp
      omega
    rw [hc j hj2]
    simp [i64s_append, List.getElem_append_left hj]

set_option maxRecDepth 100000 in
set_option maxHeartbeats 400000 in
theorem KeptInts_any {w : World} (A : Option Addr) (n c : Nat) (xs : List Int) (A' : Option Addr) (c' : Nat) (B : Nat) (hx : Ints w B A' n xs) (hn : n ≤ 100000000000000) (hc : n + 2 ≤ c) (h : Ints w B A (n + 2) (xs ++ [-7777, -8888])) :
    Calls Try.prog 27 #[.slice A n c, .slice A' n c'] w fun e w' => e = .returned (.bool true) ∧ ∃ m, w' = w.drewN m := by
  obtain ⟨p, rfl, hB, hc1⟩ := h.get (k := n) (by omega)
  obtain ⟨p', hpp, _, hc2⟩ := h.get (k := n + 1) (by omega)
  obtain rfl : p = p' := by injection hpp
  rw [(lent_get xs n hx.len).1] at hc1
  rw [(lent_get xs n hx.len).2] at hc2
  have hf := h.front hx.len
  have c1 := hid (SameInts_any (some p) n c xs A' n c' xs true (by simp) B w hf (by unfold maxLen; omega) hx (by unfold maxLen; omega))
  have hc3 := hc2
  rw [Addr.add_succ'] at hc3
  clear hpp hf
  go_enter Try.func27, Try.ntmps27
  go_wp2_with (go_at_call 24; refine c1.out.mono ?_; rintro e w' ⟨rfl, m, rfl⟩)
  go_ret
  exact ⟨rfl, _, rfl⟩

end Go.Proofs.Ytoigdbllpiffmaa
