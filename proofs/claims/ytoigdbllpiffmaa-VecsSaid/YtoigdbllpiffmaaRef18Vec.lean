/- The document's own answer on vectors (folder almonryref18). -/
import Derived.Test.YtoigdbllpiffmaaVecRules
import Derived.Test.YtoigdbllpiffmaaLend
namespace Go.Proofs.Ytoigdbllpiffmaa
open Go.RowKit

theorem inside_vec (xs : List Int) : (inside xs 0 256 && (decide (1 ≤ xs.length) && decide (xs.length ≤ 16))) = vecMay xs := by
  unfold vecMay
  cases inside xs 0 256 <;> simp

set_option maxHeartbeats 400000 in
theorem RVecMay_any (A : Option Addr) (n c : Nat) (xs : List Int) (B : Nat) (w : World) (h : Ints w B A n xs) (hn : n ≤ maxLen) :
    Calls Try.prog 26 #[.slice A n c] w fun e w' => e = .returned (.bool (vecMay xs)) ∧ w' = w := by
  have hlen := hid h.len
  unfold maxLen at hn
  go_enter Try.func26, Try.ntmps26
  go_wp2
  go_loop [3] (fun i => ∃ k : Nat, k ≤ n ∧ i = .int .i64 k ∧ Hid (inside (xs.take k) 0 256 = true)) (fun i => n - (intOf i).toNat)
  case atStart => exact ⟨0, Nat.zero_le _, rfl, rfl⟩
  case round =>
    obtain ⟨k, hk, rfl, hin⟩ := hrel
    by_cases hlt : k < n
    · obtain ⟨p, rfl, hB, hc⟩ := h.get hlt
      have hnext := hid (inside_next xs 0 256 k (by rw [hlen.out]; exact hlt))
      have hnot := hid (inside_not xs 0 256 k)
      have hvec := hid (inside_vec xs)
      by_cases h1 : xs[k]?.getD 0 < 0
      · have e := hid (show vecMay xs = false by rw [← hvec.out, hnot.out (by rw [hnext.out]; simp; omega)]; rfl)
        go_wp2
        go_ret
        exact ⟨rb e.out.symm, rfl⟩
      · by_cases h2 : 256 < xs[k]?.getD 0
        · have e := hid (show vecMay xs = false by rw [← hvec.out, hnot.out (by rw [hnext.out]; simp; omega)]; rfl)
          go_wp2
          go_ret
          exact ⟨rb e.out.symm, rfl⟩
        · go_wp2
          go_round
          case rel => exact ⟨k + 1, by omega, by go_num, hid (by rw [hnext.out, hin.out]; simp; omega)⟩
          case measure => simp [intOf]; omega
    · have e : xs.take k = xs := List.take_of_length_le (by have := hlen.out; omega)
      have hi : inside xs 0 256 = true := by rw [← hin.out, e]
      have hv := hid (show vecMay xs = (decide (1 ≤ n) && decide (n ≤ 16)) by rw [← inside_vec, hi, hlen.out, Bool.true_and])
      clear e hi
      by_cases h1 : 1 ≤ n
      · by_cases h2 : n ≤ 16
        · go_wp2
          go_ret
          exact ⟨rb (by rw [hv.out]; simp [h1, h2]; omega), rfl⟩
        · go_wp2
          go_ret
          exact ⟨rb (by rw [hv.out]; simp [h2]; omega), rfl⟩
      · go_wp2
        go_ret
        exact ⟨rb (by rw [hv.out]; simp [h1]), rfl⟩

set_option maxHeartbeats 400000 in
theorem RLike_any (A : Option Addr) (n c : Nat) (xs : List Int) (A' : Option Addr) (n' c' : Nat) (ys : List Int) (B : Nat) (w : World) (h : Ints w B A n xs) (hn : n ≤ maxLen)
    (h' : Ints w B A' n' ys) (hn' : n' ≤ maxLen) :
    Calls Try.prog 66 #[.slice A n c, .slice A' n' c'] w fun e w' => e = .returned (.bool (pairMay xs ys)) ∧ w' = w := by
  have c1 := (RVecMay_any A n c xs B w h hn)
  have c2 := (RVecMay_any A' n' c' ys B w h' hn')
  have hl := hid h.len
  have hl' := hid h'.len
  unfold maxLen at hn hn'
  have H1 := hid c1
  have H2 := hid c2
  clear c1 c2
  go_enter Try.func66, Try.ntmps66
  cases h1 : vecMay xs with
  | false =>
    have h3' := hid (show pairMay xs ys = false by simp [pairMay, h1])
    rw [h1] at H1
    clear h1
    go_wp2_with fail
    refine H1.out.mono ?_
    rintro e w' ⟨rfl, rfl⟩
    go_wp2
    go_ret
    exact ⟨rb h3'.out.symm, rfl⟩
  | true =>
    cases h2 : vecMay ys with
    | false =>
      have h3' := hid (show pairMay xs ys = false by simp [pairMay, h2])
      rw [h1] at H1
      rw [h2] at H2
      clear h1 h2
      go_wp2_with fail
      refine H1.out.mono ?_
      rintro e w' ⟨rfl, rfl⟩
      go_wp2_with fail
      refine H2.out.mono ?_
      rintro e w' ⟨rfl, rfl⟩
      go_wp2
      go_ret
      exact ⟨rb h3'.out.symm, rfl⟩
    | true =>
      have h3' := hid (show pairMay xs ys = decide (n = n') by simp [pairMay, h1, h2, hl.out, hl'.out])
      rw [h1] at H1
      rw [h2] at H2
      clear h1 h2
      go_wp2_with fail
      refine H1.out.mono ?_
      rintro e w' ⟨rfl, rfl⟩
      go_wp2_with fail
      refine H2.out.mono ?_
      rintro e w' ⟨rfl, rfl⟩
      go_wp2
      go_ret
      refine ⟨rb (h3'.out.trans ?_).symm, rfl⟩
      rw [Bool.eq_iff_iff]
      simp
      omega

set_option maxHeartbeats 800000 in
theorem RBelow_any (A : Option Addr) (n c : Nat) (xs : List Int) (A' : Option Addr) (n' c' : Nat) (ys : List Int) (b : Bool) (r : Int) (hr : belowAns xs ys = (b, r)) (B : Nat) (w : World) (h : Ints w B A n xs) (hn : n ≤ maxLen)
    (h' : Ints w B A' n' ys) (hn' : n' ≤ maxLen) :
    Calls Try.prog 18 #[.slice A n c, .slice A' n' c'] w fun e w' => e = .returned (.tuple #[.bool b, .int .i64 r]) ∧ ∃ m, w' = w.drewN m := by
  have c1 := hid (RLike_any A n c xs A' n' c' ys B w h hn h' hn')
  have hlen := hid h.len
  have hlen' := hid h'.len
  cases hp : pairMay xs ys with
  | false =>
    rw [hp] at c1
    obtain ⟨rfl, rfl⟩ : false = b ∧ 1800 = r := by simpa [belowAns, hp] using hr
    clear hp hr
    go_enter Try.func18, Try.ntmps18
    go_wp2_with (go_at_call 66; refine c1.out.mono ?_; rintro e w' ⟨rfl, rfl⟩)
    go_ret2
    exact ⟨rfl, 0, rfl⟩
  | true =>
    rw [hp] at c1
    obtain ⟨hln, hl16⟩ := pairMay_len hp
    have hb : lower xs ys = b ∧ 0 = r := by simpa [belowAns, hp] using hr
    clear hp hr
    obtain ⟨hb, rfl⟩ := hb
    have hb' := hid hb
    clear hb
    obtain rfl : n = n' := by have := hlen.out; have := hlen'.out; omega
    have hn16 : n ≤ 16 := by have := hlen.out; omega
    have hln' := hid hln
    clear hln hn hn'
    go_enter Try.func18, Try.ntmps18
    go_wp2_with (go_at_call 66; refine c1.out.mono ?_; rintro e w' ⟨rfl, rfl⟩)
    go_loopw [6] (fun i wr => ∃ k m : Nat, k ≤ n ∧ i = .int .i64 k ∧ Hid (lowerTo xs ys k = true) ∧ wr = w'.drewN m) (fun i _ => n - (intOf i).toNat)
    case atStart => exact ⟨0, 0, Nat.zero_le _, rfl, rfl, rfl⟩
    case round =>
      obtain ⟨k, m, hk, rfl, hin, rfl⟩ := hrel
      by_cases hlt : k < n
      · obtain ⟨p, rfl, hB, hc⟩ := h.get hlt
        obtain ⟨p', rfl, hB', hc'⟩ := h'.get hlt
        have hnext := hid (lowerTo_next xs ys k)
        have hnot := hid (lower_not xs ys k (by rw [hlen.out]; exact hlt))
        go_wp2
        go_quiet (fail)
        go_wp2
        · go_ret2
          exact ⟨by rw [← hb'.out, hnot.out (by assumption)]; rfl, _, World.drewN_drewN ..⟩
        · go_roundw
          case rel => exact ⟨k + 1, _, by omega, by go_num, hid (by rw [hnext.out, hin.out]; simp; omega), rfl⟩
          case measure => simp [intOf]; omega
      · go_wp2
        go_ret2
        refine ⟨?_, m, rfl⟩
        obtain rfl : k = xs.length := by have := hlen.out; omega
        have e : lower xs ys = true := hin.out
        rw [← hb'.out, e]
        rfl

theorem apart_of_below (xs ys : List Int) (b1 b2 : Bool) (r1 r2 : Int) (h1 : belowAns xs ys = (b1, r1)) (h2 : belowAns ys xs = (b2, r2)) : apartAns xs ys = (decide (r1 = 0) && (!b1 && !b2), r1) := by
  by_cases hp : pairMay xs ys = true
  · have hp' : pairMay ys xs = true := by
      obtain ⟨a, b, c⟩ := (pairMay_iff _ _).1 hp
      exact (pairMay_iff _ _).2 ⟨b, a, c.symm⟩
    simp only [belowAns, hp, hp', if_true, Prod.mk.injEq] at h1 h2
    obtain ⟨rfl, rfl⟩ := h1
    obtain ⟨rfl, rfl⟩ := h2
    simp [apartAns, hp]
  · simp [belowAns, hp] at h1
    obtain ⟨rfl, rfl⟩ := h1
    simp [apartAns, hp]

set_option maxHeartbeats 800000 in
theorem RApart_any (A : Option Addr) (n c : Nat) (xs : List Int) (A' : Option Addr) (n' c' : Nat) (ys : List Int) (b : Bool) (r : Int) (hr : apartAns xs ys = (b, r)) (B : Nat) (w : World) (h : Ints w B A n xs) (hn : n ≤ maxLen)
    (h' : Ints w B A' n' ys) (hn' : n' ≤ maxLen) :
    Calls Try.prog 22 #[.slice A n c, .slice A' n' c'] w fun e w' => e = .returned (.tuple #[.bool b, .int .i64 r]) ∧ ∃ m, w' = w.drewN m := by
  obtain ⟨b1, r1, e1⟩ : ∃ b1 r1, belowAns xs ys = (b1, r1) := ⟨_, _, rfl⟩
  obtain ⟨b2, r2, e2⟩ : ∃ b2 r2, belowAns ys xs = (b2, r2) := ⟨_, _, rfl⟩
  have hk := apart_of_below xs ys b1 b2 r1 r2 e1 e2
  rw [hk] at hr
  obtain ⟨rfl, rfl⟩ := Prod.mk.inj hr
  clear hk hr
  have c1 := hid (RBelow_any A n c xs A' n' c' ys b1 r1 e1 B w h hn h' hn')
  have c2 := hid (fun m => RBelow_any A' n' c' ys A n c xs b2 r2 e2 B (w.drewN m) h' hn' h hn)
  clear e1 e2
  unfold maxLen at hn hn'
  go_enter Try.func22, Try.ntmps22
  go_wp2_with fail
  refine c1.out.mono ?_
  rintro e w' ⟨rfl, m, rfl⟩
  go_wp2_with fail
  refine (c2.out m).mono ?_
  rintro e w' ⟨rfl, m', rfl⟩
  by_cases h0 : r1 = 0
  · subst h0
    cases b1 <;> cases b2
    all_goals
      go_wp2
      go_ret2
      exact ⟨rfl, _, by first | rfl | exact World.drewN_drewN ..⟩
  · have h0' : (r1 == 0) = false := by simpa using h0
    go_wp2
    go_ret2
    refine ⟨?_, _, by first | rfl | exact World.drewN_drewN ..⟩
    have e : (decide (r1 = 0) && (!b1 && !b2)) = false := by simp [h0]
    rw [e]
    rfl

set_option maxHeartbeats 2000000 in
theorem RJoin_any (A : Option Addr) (n c : Nat) (xs : List Int) (A' : Option Addr) (n' c' : Nat) (ys : List Int) (zs : List Int) (r : Int) (hr : joinAns xs ys = (zs, r)) (w : World) (h : Ints w w.heap.size A n xs) (hn : n ≤ maxLen)
    (h' : Ints w w.heap.size A' n' ys) (hn' : n' ≤ maxLen) :
    Calls Try.prog 20 #[.slice A n c, .slice A' n' c'] w fun e w' => ∃ A n c, e = .returned (.tuple #[.slice A n c, .int .i64 r]) ∧ Ints w' w'.heap.size A n zs ∧ n ≤ 16 ∧ Below w.heap.size w w' := by
  obtain ⟨i0, hi, hz0, hz1, hz2⟩ := info_parts Try.infoInt
  have c1 := hid (RLike_any A n c xs A' n' c' ys _ w h hn h' hn')
  have hlen := hid h.len
  have hlen' := hid h'.len
  cases hp : pairMay xs ys with
  | false =>
    rw [hp] at c1
    obtain ⟨rfl, rfl⟩ : [] = zs ∧ 1800 = r := by simpa [joinAns, hp] using hr
    clear hp hr
    go_enter Try.func20, Try.ntmps20
    go_wp2_with (go_at_call 66; refine c1.out.mono ?_; rintro e w' ⟨rfl, rfl⟩)
    go_ret2
    exact ⟨none, 0, 0, rfl, Ints.none_ _ _ _, by omega, Below.refl _ _⟩
  | true =>
    rw [hp] at c1
    obtain ⟨hln, hl16⟩ := pairMay_len hp
    obtain ⟨rfl, rfl⟩ : greater xs ys = zs ∧ 0 = r := by simpa [joinAns, hp] using hr
    clear hp hr
    obtain rfl : n = n' := by have := hlen.out; have := hlen'.out; omega
    have hn16 : n ≤ 16 := by have := hlen.out; omega
    have hln' := hid hln
    clear hln hn hn'
    go_enter Try.func20, Try.ntmps20
    go_wp2_with (go_at_call 66; refine c1.out.mono ?_; rintro e w' ⟨rfl, rfl⟩)
    go_loopw [7, 6] (fun i v wr => ∃ (k : Nat), k ≤ n ∧ i = .int .i64 k ∧ (∃ A c, v = .slice A k c) ∧
        wr.ownsRow w'.heap.size 3 1 v k (i64s (greaterTo xs ys k)) ∧ Below w'.heap.size w' wr) (fun i _ _ => n - (intOf i).toNat)
    case atStart => exact ⟨0, Nat.zero_le _, rfl, ⟨_, _, rfl⟩, World.ownsRow_nil _ _ _ _, Below.refl _ _⟩
    case round =>
      obtain ⟨k, hk, rfl, ⟨A5, c5, rfl⟩, hown, hb⟩ := hrel
      by_cases hlt : k < n
      · obtain ⟨p, rfl, hB, hc⟩ := (h.below hb).get hlt
        obtain ⟨p', rfl, hB', hc'⟩ := (h'.below hb).get hlt
        have hnext := hid (greaterTo_next xs ys k)
        have hsz := hb.size
        have hS : ∀ w'', Below w'.heap.size wr w'' → w''.cell? (p.add k) = some (.int .i64 (xs[k]?.getD 0)) ∧ w''.cell? (p'.add k) = some (.int .i64 (ys[k]?.getD 0)) := fun w'' hw =>
          ⟨(hw.cell (by rw [add_block]; exact hB)).trans (by simpa using hc), (hw.cell (by rw [add_block]; exact hB')).trans (by simpa using hc')⟩
        have hS' := hid hS
        clear hS
        have hfold : (if xs[k]?.getD 0 < ys[k]?.getD 0 then ys[k]?.getD 0 else xs[k]?.getD 0) = larger (xs[k]?.getD 0) (ys[k]?.getD 0) := rfl
        go_wp2
        go_region_held3 (fun w' => w'.cell? (p.add k) = some (.int .i64 (xs[k]?.getD 0)) ∧ w'.cell? (p'.add k) = some (.int .i64 (ys[k]?.getD 0)))
          (first | exact hS'.out _ (Below.refl _ _) | exact hS'.out _ (Below.refl _ _).drew | exact hS'.out _ ((Below.refl _ _).alloc hsz _) | exact hS'.out _ ((Below.refl _ _).alloc hsz _).drew | exact hS'.out _ (((Below.refl _ _).alloc hsz _).drew.trans (by assumption)))
          (first
            | (refine step_push rfl (.tmp 18) (.tmp 28) 22 3 rfl w'.heap.size i0 (.int .i64 0) 8 Try.underlying22 hi hz0 hz1 hz2 rfl (by decide) A5 k c5 _ wr.heap.size (.int .i64 (larger (xs[k]?.getD 0) (ys[k]?.getD 0))) rfl rfl rfl (by omega) (by exact hown.drew.alloc _) ?_ ?_ ?_; rotate_right; intro A6 c6 w1 hown1 hb1 _; rotate_left; simp; (first | (simp; omega) | simp | omega)))
        go_wp2
        go_roundw
        case rel =>
          refine ⟨k + 1, by omega, by go_num, ⟨_, _, rfl⟩, ?_, (hb.alloc hsz _).drew.trans hb1⟩
          rw [hnext.out, i64s_snoc]
          exact hown1
        case measure => simp [intOf]; omega
      · go_wp2
        go_ret2
        obtain rfl : k = n := by omega
        have e : greaterTo xs ys k = greater xs ys := by rw [← hlen.out]; rfl
        rw [e] at hown
        exact ⟨_, _, _, rfl, At.of_own hown, hn16, hb⟩

end Go.Proofs.Ytoigdbllpiffmaa
