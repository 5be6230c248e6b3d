/- Lists of texts that are lent with marked room behind them (folder almonrylaw0). -/
import Derived.Test.YtenfhmpjhbpkpaaTexts
import Derived.Deep.Quiet
namespace Go.Proofs.Ytenfhmpjhbpkpaa
open Go.RowKit

theorem Try.infoStr : (Try.prog.info? 9).map (fun i => (i.zero, i.size, i.bytes)) = some (some (.string ByteArray.empty), 1, 16) := by kernel_rfl

/-- What lies in the room behind. -/
def roomS : List ByteArray := [⟨#[126, 114, 111, 111, 109]⟩, ⟨#[126, 98, 101, 104, 105, 110, 100]⟩]

theorem At.new (w : World) (vs : List Value) (n : Nat) (e : TypeId) (cs : Array Value) (h : cs.toList = vs) (hn : vs.length = n) :
    At (w.alloc (.cells cs e)) (w.heap.size + 1) 1 (some ⟨w.heap.size, 0, none⟩) n vs := by
  subst hn h
  refine ⟨by simp, .inr ⟨_, rfl, Nat.lt_succ_self _, fun j hj => ?_⟩⟩
  have e0 : (⟨w.heap.size, 0, none⟩ : Addr).add j = ⟨w.heap.size, j, none⟩ := by
    unfold Addr.add
    by_cases h0 : j = 0 <;> simp [h0]
  have hj' : j < cs.size := by simpa using hj
  rw [e0, cell_of_row _ w.heap.size j cs e (0, 0) (heap_alloc_new w _), Array.getElem?_eq_getElem hj']
  simp

set_option maxHeartbeats 400000 in
theorem CopyTexts_any {w : World} (A : Option Addr) (n c : Nat) (xs : List ByteArray) (h : TextsIn w A n c xs) :
    Calls Try.prog 38 #[.slice A n c] w fun e w' => ∃ A' c', e = .returned (.slice A' n c') ∧ w'.ownsRow w.heap.size 9 1 (.slice A' n c') n (strs xs) ∧ Below w.heap.size w w' := by
  obtain ⟨hx, hn, hc, hnil, _⟩ := h
  obtain ⟨i0, hi, hz0, hz1, hz2⟩ := info_parts Try.infoStr
  go_enter Try.func38, Try.ntmps38
  go_wp2_with (at_builtin; refine wpList_appends rfl (.tmp 3) (.tmp 4) 22 9 rfl w.heap.size i0 (.string ByteArray.empty) 1 16 Try.underlying22 hi hz0 hz1 hz2 rfl (by decide) (some ⟨w.heap.size, 0, none⟩) 0 0 [] w.heap.size A n c (strs xs) rfl rfl hnil (strs_one _) (by omega) (by omega) ?_ ?_ (by first | (simp; done) | (simp; omega) | omega) ?_; rotate_right; intro A6 c6 w1 hown1 hb1 hg1; rotate_left; (exact World.ownsRow_lit w #[] 0 (Nat.le_refl _) (by decide) rfl); (exact At.alloc hx (Nat.le_refl _) _))
  go_ret
  rw [Nat.zero_add, List.nil_append] at hown1
  exact ⟨_, _, rfl, hown1, ((Below.refl _ _).alloc (Nat.le_refl _) _).trans hb1⟩

set_option maxRecDepth 100000 in
set_option maxHeartbeats 400000 in
theorem LendTexts_any {w : World} (A : Option Addr) (n c : Nat) (xs : List ByteArray) (h : TextsIn w A n c xs) :
    Calls Try.prog 12 #[.slice A n c] w fun e w' => ∃ A' c', e = .returned (.slice A' n c') ∧ n + 2 ≤ c' ∧ Texts w' w'.heap.size A' (n + 2) (xs ++ roomS) ∧ Below w.heap.size w w' := by
  have h0 := h
  obtain ⟨hx, hn, hc, hnil, _⟩ := h
  obtain ⟨i0, hi, hz0, hz1, hz2⟩ := info_parts Try.infoStr
  go_enter Try.func12, Try.ntmps12
  go_wp2_with fail
  refine (CopyTexts_any A n c xs h0).mono ?_
  rintro e w1 ⟨A1, c1, rfl, hown, hb⟩
  have hsz := hb.size
  go_wp2_with (at_builtin; refine wpList_appends rfl (.tmp 5) (.tmp 6) 22 9 rfl w.heap.size i0 (.string ByteArray.empty) 1 16 Try.underlying22 hi hz0 hz1 hz2 rfl (by decide) A1 n c1 (strs xs) (w1.heap.size + 1) (some ⟨w1.heap.size, 0, none⟩) 2 2 (strs roomS) rfl rfl (fun h => by cases h) (strs_one _) (by omega) (by omega) ?_ ?_ (by first | (simp; done) | (simp; omega) | omega) ?_; rotate_right; intro A6 c6 w2 hown2 hb2 hg2; rotate_left; (exact hown.alloc _); (exact At.new _ _ _ _ _ rfl rfl); have hc6 := own_cap hown2)
  go_ret
  refine ⟨_, _, rfl, own_cap hown2, ?_, ?_⟩
  · unfold Texts
    rw [strs_append]
    exact At.of_own hown2
  · exact (hb.alloc hsz _).trans hb2

/-- Two texts behind. -/
theorem room_get (xs : List ByteArray) (n : Nat) (h : xs.length = n) : (xs ++ roomS)[n]? = some ⟨#[126, 114, 111, 111, 109]⟩ ∧ (xs ++ roomS)[n + 1]? = some ⟨#[126, 98, 101, 104, 105, 110, 100]⟩ := by
  subst h
  constructor <;> simp [roomS]

set_option maxHeartbeats 400000 in
theorem SameTexts_any (A : Option Addr) (n c : Nat) (xs : List ByteArray) (A' : Option Addr) (c' : Nat) (B : Nat) (w : World) (h : Texts w B A n xs) (hn : n ≤ 100000000000000) (h' : Texts w B A' n xs) :
    Calls Try.prog 44 #[.slice A n c, .slice A' n c'] w fun e w' => e = .returned (.bool true) ∧ ∃ m, w' = w.drewN m := by
  go_enter Try.func44, Try.ntmps44
  go_wp2
  go_loopw [5] (fun i wr => ∃ k m : Nat, k ≤ n ∧ i = .int .i64 k ∧ wr = w.drewN m) (fun i _ => n - (intOf i).toNat)
  case atStart => exact ⟨0, 0, Nat.zero_le _, rfl, rfl⟩
  case round =>
    obtain ⟨k, m, hk, rfl, rfl⟩ := hrel
    by_cases hlt : k < n
    · obtain ⟨p, rfl, hB, x, -, hx, hc⟩ := h.get hlt
      obtain ⟨p', rfl, hB', x', -, hx', hc'⟩ := h'.get hlt
      obtain rfl : x = x' := Option.some.inj (hx.symm.trans hx')
      have hkn : (k : Int) < (n : Int) := by omega
      clear hx hx'
      go_wp2
      go_quiet (fail)
      go_wp2
      go_roundw
      case rel => exact ⟨k + 1, _, by omega, by go_num, rfl⟩
      case measure => simp [intOf]; omega
    · obtain rfl : k = n := by omega
      go_wp2
      go_ret
      exact ⟨rfl, m, rfl⟩

set_option maxRecDepth 100000 in
set_option maxHeartbeats 400000 in
theorem KeptTexts_any {w : World} (A : Option Addr) (n c : Nat) (xs : List ByteArray) (A' : Option Addr) (c' : Nat) (B : Nat) (hx : Texts w B A' n xs) (hn : n ≤ 100000000000000) (hc : n + 2 ≤ c) (h : Texts w B A (n + 2) (xs ++ roomS)) :
    Calls Try.prog 21 #[.slice A n c, .slice A' n c'] w fun e w' => e = .returned (.bool true) ∧ ∃ m, w' = w.drewN m := by
  obtain ⟨p, rfl, hB, x1, -, hx1, hc1⟩ := h.get (k := n) (by omega)
  obtain ⟨p', hpp, _, x2, -, hx2, hc2⟩ := h.get (k := n + 1) (by omega)
  obtain rfl : p = p' := by injection hpp
  obtain rfl := Option.some.inj (hx1.symm.trans (room_get xs n hx.len).1)
  obtain rfl := Option.some.inj (hx2.symm.trans (room_get xs n hx.len).2)
  have hf := h.front hx.len
  have c1 := hid (SameTexts_any (some p) n c xs A' c' B w hf hn hx)
  have hc3 := hc2
  rw [Addr.add_succ'] at hc3
  clear hpp hf hx1 hx2
  go_enter Try.func21, Try.ntmps21
  go_wp2_with (go_at_call 44; refine c1.out.mono ?_; rintro e w' ⟨rfl, m, rfl⟩)
  go_ret
  exact ⟨rfl, _, rfl⟩

end Go.Proofs.Ytenfhmpjhbpkpaa
