/- The contracts of package vec. -/
import Derived.Test.YtoigdbllpiffmaaRows
import Derived.Test.YtoigdbllpiffmaaWords
namespace Go.Proofs.Ytoigdbllpiffmaa
open Go.RowKit

theorem rb {a b : Bool} (h : a = b) : Ending.returned (.bool a) = Ending.returned (.bool b) := by rw [h]

/-- Are all numbers within? -/
def inside (xs : List Int) (a b : Int) : Bool := xs.all fun x => decide (a ≤ x) && decide (x ≤ b)

theorem take_next {α : Type} (l : List α) (k : Nat) (h : k < l.length) : l.take (k + 1) = l.take k ++ [l[k]] := by
  rw [List.take_succ_eq_append_getElem h]

theorem inside_next (xs : List Int) (a b : Int) (k : Nat) (h : k < xs.length) :
    inside (xs.take (k + 1)) a b = (inside (xs.take k) a b && (decide (a ≤ xs[k]?.getD 0) && decide (xs[k]?.getD 0 ≤ b))) := by
  rw [take_next xs k h]
  unfold inside
  rw [List.all_append]
  simp [List.getElem?_eq_getElem h]

theorem inside_not (xs : List Int) (a b : Int) (k : Nat) (hn : inside (xs.take (k + 1)) a b = false) : inside xs a b = false := by
  cases hh : inside xs a b with
  | false => rfl
  | true =>
    have : inside (xs.take (k + 1)) a b = true := by
      unfold inside at hh ⊢
      rw [List.all_eq_true] at hh ⊢
      intro x hx
      exact hh x (List.mem_of_mem_take hx)
    rw [this] at hn
    cases hn

set_option maxHeartbeats 400000 in
theorem within_any (A : Option Addr) (n c : Nat) (xs : List Int) (a b : Int) (B : Nat) (w : World) (h : Ints w B A n xs) (hn : n ≤ maxLen) :
    Calls Try.prog 68 #[.slice A n c, .int .i64 a, .int .i64 b] w fun e w' => e = .returned (.bool (inside xs a b)) ∧ w' = w := by
  have hlen := hid h.len
  unfold maxLen at hn
  go_enter Try.func68, Try.ntmps68
  go_wp2
  go_loop [11] (fun i => ∃ k : Nat, k ≤ n ∧ i = .int .i64 k ∧ Hid (inside (xs.take k) a b = true)) (fun i => n - (intOf i).toNat)
  case atStart => exact ⟨0, Nat.zero_le _, rfl, rfl⟩
  case round =>
    obtain ⟨k, hk, rfl, hin⟩ := hrel
    by_cases hlt : k < n
    · obtain ⟨p, rfl, hB, hc⟩ := h.get hlt
      have hnext := hid (inside_next xs a b k (by rw [hlen.out]; exact hlt))
      have hnot := hid (inside_not xs a b k)
      go_wp2
      · go_ret
        exact ⟨rb (hnot.out (by rw [hnext.out]; simp; omega)).symm, rfl⟩
      · go_round
        case rel => exact ⟨k + 1, by omega, by go_num, hid (by rw [hnext.out, hin.out]; simp; omega)⟩
        case measure => simp [intOf]; omega
      · go_ret
        exact ⟨rb (hnot.out (by rw [hnext.out]; simp; omega)).symm, rfl⟩
    · go_wp2
      go_ret
      have : xs.take k = xs := List.take_of_length_le (by have := hlen.out; omega)
      exact ⟨rb (by rw [← hin.out, this]), rfl⟩

/-- Is it a vector? -/
def vecMay (xs : List Int) : Bool := decide (1 ≤ xs.length) && (decide (xs.length ≤ 16) && inside xs 0 256)

set_option maxHeartbeats 400000 in
theorem may_any (A : Option Addr) (n c : Nat) (xs : List Int) (B : Nat) (w : World) (h : Ints w B A n xs) (hn : n ≤ maxLen) :
    Calls Try.prog 25 #[.slice A n c] w fun e w' => e = .returned (.bool (vecMay xs)) ∧ w' = w := by
  have hlen := hid h.len
  have hn' := hn
  unfold maxLen at hn'
  go_enter Try.func25, Try.ntmps25
  by_cases h1 : 1 ≤ n
  · by_cases h2 : n ≤ 16
    · have h3 : vecMay xs = inside xs 0 256 := by simp [vecMay, hlen.out, h1, h2]
      have h3' := hid h3
      clear h3
      go_wp2_with (go_at_call 68; refine (within_any _ _ _ xs _ _ B _ h hn).mono ?_; rintro e w' ⟨rfl, rfl⟩)
      go_ret
      exact ⟨rb h3'.out.symm, rfl⟩
    · have h3' := hid (show vecMay xs = false by simp [vecMay, hlen.out, h2])
      go_wp2
      go_ret
      exact ⟨rb h3'.out.symm, rfl⟩
  · have h3' := hid (show vecMay xs = false by simp [vecMay, hlen.out, h1])
    go_wp2
    go_ret
    exact ⟨rb h3'.out.symm, rfl⟩

/-- Can two be compared? -/
def pairMay (xs ys : List Int) : Bool := vecMay xs && (vecMay ys && decide (xs.length = ys.length))

set_option maxHeartbeats 400000 in
theorem pairMay_any (A : Option Addr) (n c : Nat) (xs : List Int) (A' : Option Addr) (n' c' : Nat) (ys : List Int) (B : Nat) (w : World) (h : Ints w B A n xs) (hn : n ≤ maxLen)
    (h' : Ints w B A' n' ys) (hn' : n' ≤ maxLen) :
    Calls Try.prog 64 #[.slice A n c, .slice A' n' c'] w fun e w' => e = .returned (.bool (pairMay xs ys)) ∧ w' = w := by
  have c1 := (may_any A n c xs B w h hn)
  have c2 := (may_any A' n' c' ys B w h' hn')
  have hl := hid h.len
  have hl' := hid h'.len
  unfold maxLen at hn hn'
  have H1 := hid c1
  have H2 := hid c2
  clear c1 c2
  go_enter Try.func64, Try.ntmps64
  cases h1 : vecMay xs with
  | false =>
    have h3' := hid (show pairMay xs ys = false by simp [pairMay, h1])
    rw [h1] at H1
    clear h1
    go_wp2_with (go_at_call 25; refine H1.out.mono ?_; rintro e w' ⟨rfl, rfl⟩)
    go_ret
    exact ⟨rb h3'.out.symm, rfl⟩
  | true =>
    cases h2 : vecMay ys with
    | false =>
      have h3' := hid (show pairMay xs ys = false by simp [pairMay, h2])
      rw [h1] at H1
      rw [h2] at H2
      clear h1 h2
      go_wp2_with fail
      refine H1.out.mono ?_
      rintro e w' ⟨rfl, rfl⟩
      go_wp2_with fail
      refine H2.out.mono ?_
      rintro e w' ⟨rfl, rfl⟩
      go_wp2
      go_ret
      exact ⟨rb h3'.out.symm, rfl⟩
    | true =>
      have h3' := hid (show pairMay xs ys = decide (n = n') by simp [pairMay, h1, h2, hl.out, hl'.out])
      rw [h1] at H1
      rw [h2] at H2
      clear h1 h2
      go_wp2_with fail
      refine H1.out.mono ?_
      rintro e w' ⟨rfl, rfl⟩
      go_wp2_with fail
      refine H2.out.mono ?_
      rintro e w' ⟨rfl, rfl⟩
      go_wp2
      go_ret
      refine ⟨rb (h3'.out.trans ?_).symm, rfl⟩
      rw [Bool.eq_iff_iff]
      simp
      omega

/-- Is each number at most the other list's? (b is as long as a) -/
def lower (xs ys : List Int) : Bool := (List.range xs.length).all fun k => decide (xs[k]?.getD 0 ≤ ys[k]?.getD 0)

/-- The same, as far as k. -/
def lowerTo (xs ys : List Int) (k : Nat) : Bool := (List.range k).all fun k => decide (xs[k]?.getD 0 ≤ ys[k]?.getD 0)

theorem lowerTo_next (xs ys : List Int) (k : Nat) : lowerTo xs ys (k + 1) = (lowerTo xs ys k && decide (xs[k]?.getD 0 ≤ ys[k]?.getD 0)) := by
  unfold lowerTo
  rw [List.range_succ, List.all_append]
  simp

theorem lower_not (xs ys : List Int) (k : Nat) (h : k < xs.length) (hn : ys[k]?.getD 0 < xs[k]?.getD 0) : lower xs ys = false := by
  unfold lower
  rw [List.all_eq_false]
  exact ⟨k, by simpa using h, by simp; omega⟩

set_option maxHeartbeats 400000 in
theorem below_any (A : Option Addr) (n c : Nat) (xs : List Int) (A' : Option Addr) (c' : Nat) (ys : List Int) (B : Nat) (w : World) (h : Ints w B A n xs) (hn : n ≤ maxLen) (h' : Ints w B A' n ys) :
    Calls Try.prog 65 #[.slice A n c, .slice A' n c'] w fun e w' => e = .returned (.bool (lower xs ys)) ∧ ∃ m, w' = w.drewN m := by
  have hlen := hid h.len
  unfold maxLen at hn
  go_enter Try.func65, Try.ntmps65
  go_wp2
  go_loopw [8] (fun i wr => ∃ k m : Nat, k ≤ n ∧ i = .int .i64 k ∧ Hid (lowerTo xs ys k = true) ∧ wr = w.drewN m) (fun i _ => n - (intOf i).toNat)
  case atStart => exact ⟨0, 0, Nat.zero_le _, rfl, rfl, rfl⟩
  case round =>
    obtain ⟨k, m, hk, rfl, hin, rfl⟩ := hrel
    by_cases hlt : k < n
    · obtain ⟨p, rfl, hB, hc⟩ := h.get hlt
      obtain ⟨p', rfl, hB', hc'⟩ := h'.get hlt
      go_wp2
      go_quiet (fail)
      have hnext := hid (lowerTo_next xs ys k)
      have hnot := hid (lower_not xs ys k (by rw [hlen.out]; exact hlt))
      go_wp2
      · go_ret
        exact ⟨rb (hnot.out (by assumption)).symm, _, World.drewN_drewN ..⟩
      · go_roundw
        case rel => exact ⟨k + 1, _, by omega, by go_num, hid (by rw [hnext.out, hin.out]; simp; omega), rfl⟩
        case measure => simp [intOf]; omega
    · go_wp2
      go_ret
      refine ⟨rb ?_, m, rfl⟩
      obtain rfl : k = xs.length := by have := hlen.out; omega
      exact hin.out.symm

/-- The greater one, as Go's max tells it. -/
def larger (a b : Int) : Int := if b > a then b else a

/-- Of each place the greater number. -/
def greater (xs ys : List Int) : List Int := (List.range xs.length).map fun k => larger (xs[k]?.getD 0) (ys[k]?.getD 0)
def greaterTo (xs ys : List Int) (k : Nat) : List Int := (List.range k).map fun k => larger (xs[k]?.getD 0) (ys[k]?.getD 0)

theorem greaterTo_next (xs ys : List Int) (k : Nat) : greaterTo xs ys (k + 1) = greaterTo xs ys k ++ [larger (xs[k]?.getD 0) (ys[k]?.getD 0)] := by
  unfold greaterTo
  rw [List.range_succ, List.map_append]
  rfl

theorem Try.infoInt : (Try.prog.info? 3).map (fun i => (i.zero, i.size, i.bytes)) = some (some (.int .i64 0), 1, 8) := by kernel_rfl

set_option maxHeartbeats 400000 in
theorem join_any (A : Option Addr) (n c : Nat) (xs : List Int) (A' : Option Addr) (c' : Nat) (ys : List Int) (w : World) (h : Ints w w.heap.size A n xs) (hn : n ≤ 1000000)
    (h' : Ints w w.heap.size A' n ys) :
    Calls Try.prog 67 #[.slice A n c, .slice A' n c'] w fun e w' =>
      ∃ A c, e = .returned (.slice A n c) ∧ Ints w' w'.heap.size A n (greater xs ys) ∧ Below w.heap.size w w' := by
  obtain ⟨i0, hi, hz0, hz1, hz2⟩ := info_parts Try.infoInt
  have hlen := hid h.len
  go_enter Try.func67, Try.ntmps67
  go_wp2_with (at_make; refine wpList_make_own _ rfl _ _ 22 rfl w.heap.size 3 i0 (.int .i64 0) 1 Try.underlying22 hi hz0 hz1 _ _ _ n rfl rfl (by omega) (by rw [hz2]; omega) (by unfold maxLen; omega) (Nat.le_refl _) ?_; intro w0 hown0 hgrow0)
  go_loopw [12, 5] (fun i v wr => ∃ (k : Nat), k ≤ n ∧ i = .int .i64 k ∧ (∃ A c, v = .slice A k c) ∧
      wr.ownsRow w.heap.size 3 1 v k (i64s (greaterTo xs ys k)) ∧ Below w.heap.size w wr) (fun i _ _ => n - (intOf i).toNat)
  case atStart => exact ⟨0, Nat.zero_le _, rfl, ⟨_, _, rfl⟩, hown0, (Below.refl _ _).grown hgrow0 (Nat.le_refl _) (fun k h => by cases h)⟩
  case round =>
    obtain ⟨k, hk, rfl, ⟨A5, c5, rfl⟩, hown, hb⟩ := hrel
    by_cases hlt : k < n
    · obtain ⟨p, rfl, hB, hc⟩ := (h.below hb).get hlt
      obtain ⟨p', rfl, hB', hc'⟩ := (h'.below hb).get hlt
      have hnext := hid (greaterTo_next xs ys k)
      have hsz := hb.size
      have hS : ∀ w', Below w.heap.size wr w' → w'.cell? (p.add k) = some (.int .i64 (xs[k]?.getD 0)) ∧ w'.cell? (p'.add k) = some (.int .i64 (ys[k]?.getD 0)) := fun w' hw =>
        ⟨(hw.cell (by rw [add_block]; exact hB)).trans (by simpa using hc), (hw.cell (by rw [add_block]; exact hB')).trans (by simpa using hc')⟩
      have hS' := hid hS
      clear hS
      have hfold : (if xs[k]?.getD 0 < ys[k]?.getD 0 then ys[k]?.getD 0 else xs[k]?.getD 0) = larger (xs[k]?.getD 0) (ys[k]?.getD 0) := rfl
      go_wp2
      go_region_held3 (fun w' => w'.cell? (p.add k) = some (.int .i64 (xs[k]?.getD 0)) ∧ w'.cell? (p'.add k) = some (.int .i64 (ys[k]?.getD 0)))
        (first | exact hS'.out _ (Below.refl _ _) | exact hS'.out _ (Below.refl _ _).drew | exact hS'.out _ ((Below.refl _ _).alloc hsz _) | exact hS'.out _ ((Below.refl _ _).alloc hsz _).drew | exact hS'.out _ (((Below.refl _ _).alloc hsz _).drew.trans (by assumption)))
        (first
          | (refine step_push rfl (.tmp 15) (.tmp 25) 22 3 rfl w.heap.size i0 (.int .i64 0) 8 Try.underlying22 hi hz0 hz1 hz2 rfl (by decide) A5 k c5 _ wr.heap.size (.int .i64 (larger (xs[k]?.getD 0) (ys[k]?.getD 0))) rfl rfl rfl (by omega) (by exact hown.drew.alloc _) ?_ ?_ ?_; rotate_right; intro A6 c6 w1 hown1 hb1 _; rotate_left; simp; (first | (simp; omega) | simp | omega)))
      go_wp2
      go_roundw
      case rel =>
        refine ⟨k + 1, by omega, by go_num, ⟨_, _, rfl⟩, ?_, (hb.alloc hsz _).drew.trans hb1⟩
        rw [hnext.out, i64s_snoc]
        exact hown1
      case measure => simp [intOf]; omega
    · go_wp2
      go_ret
      obtain rfl : k = n := by omega
      refine ⟨_, _, rfl, ?_, hb⟩
      have e : greaterTo xs ys k = greater xs ys := by rw [← hlen.out]; rfl
      rw [← e]
      exact At.of_own hown

/-- What Below, Apart, Join answer. -/
def belowAns (xs ys : List Int) : Bool × Int := if pairMay xs ys = true then (lower xs ys, 0) else (false, 1800)
def apartAns (xs ys : List Int) : Bool × Int := if pairMay xs ys = true then (!lower xs ys && !lower ys xs, 0) else (false, 1800)
def joinAns (xs ys : List Int) : List Int × Int := if pairMay xs ys = true then (greater xs ys, 0) else ([], 1800)

theorem pairMay_len {xs ys : List Int} (h : pairMay xs ys = true) : xs.length = ys.length ∧ xs.length ≤ 16 := by
  simp only [pairMay, vecMay, Bool.and_eq_true, decide_eq_true_eq] at h
  exact ⟨h.2.2, h.1.2.1⟩

set_option maxHeartbeats 400000 in
theorem Below_any (A : Option Addr) (n c : Nat) (xs : List Int) (A' : Option Addr) (n' c' : Nat) (ys : List Int) (b : Bool) (r : Int) (hr : belowAns xs ys = (b, r)) (B : Nat) (w : World) (h : Ints w B A n xs) (hn : n ≤ maxLen)
    (h' : Ints w B A' n' ys) (hn' : n' ≤ maxLen) :
    Calls Try.prog 17 #[.slice A n c, .slice A' n' c'] w fun e w' => e = .returned (.tuple #[.bool b, .int .i64 r]) ∧ ∃ m, w' = w.drewN m := by
  have c1 := hid (pairMay_any A n c xs A' n' c' ys B w h hn h' hn')
  have hl := hid h.len
  have hl' := hid h'.len
  cases hp : pairMay xs ys with
  | false =>
    rw [hp] at c1
    obtain ⟨rfl, rfl⟩ : false = b ∧ 1800 = r := by simpa [belowAns, hp] using hr
    clear hp hr
    go_enter Try.func17, Try.ntmps17
    go_wp2_with (go_at_call 64; refine c1.out.mono ?_; rintro e w' ⟨rfl, rfl⟩)
    go_ret2
    exact ⟨rfl, 0, rfl⟩
  | true =>
    rw [hp] at c1
    obtain ⟨hln, hl16⟩ := pairMay_len hp
    obtain ⟨rfl, rfl⟩ : lower xs ys = b ∧ 0 = r := by simpa [belowAns, hp] using hr
    clear hp hr
    obtain rfl : n = n' := by have := hl.out; have := hl'.out; omega
    have hln' := hid hln
    clear hln
    go_enter Try.func17, Try.ntmps17
    go_wp2_with (first | (go_at_call 64; refine c1.out.mono ?_; rintro e w' ⟨rfl, rfl⟩) | (go_at_call 65; refine (below_any A n c xs A' c' ys B _ h hn h').mono ?_; rintro e w' ⟨rfl, m, rfl⟩))
    go_ret2
    exact ⟨rfl, _, rfl⟩

set_option maxHeartbeats 400000 in
theorem Apart_any (A : Option Addr) (n c : Nat) (xs : List Int) (A' : Option Addr) (n' c' : Nat) (ys : List Int) (b : Bool) (r : Int) (hr : apartAns xs ys = (b, r)) (B : Nat) (w : World) (h : Ints w B A n xs) (hn : n ≤ maxLen)
    (h' : Ints w B A' n' ys) (hn' : n' ≤ maxLen) :
    Calls Try.prog 21 #[.slice A n c, .slice A' n' c'] w fun e w' => e = .returned (.tuple #[.bool b, .int .i64 r]) ∧ ∃ m, w' = w.drewN m := by
  have c1 := hid (pairMay_any A n c xs A' n' c' ys B w h hn h' hn')
  have hl := hid h.len
  have hl' := hid h'.len
  cases hp : pairMay xs ys with
  | false =>
    rw [hp] at c1
    obtain ⟨rfl, rfl⟩ : false = b ∧ 1800 = r := by simpa [apartAns, hp] using hr
    clear hp hr
    go_enter Try.func21, Try.ntmps21
    go_wp2_with (go_at_call 64; refine c1.out.mono ?_; rintro e w' ⟨rfl, rfl⟩)
    go_ret2
    exact ⟨rfl, 0, rfl⟩
  | true =>
    rw [hp] at c1
    obtain ⟨hln, hl16⟩ := pairMay_len hp
    obtain ⟨rfl, rfl⟩ : (!lower xs ys && !lower ys xs) = b ∧ 0 = r := by simpa [apartAns, hp] using hr
    clear hp hr
    obtain rfl : n = n' := by have := hl.out; have := hl'.out; omega
    have hln' := hid hln
    clear hln
    have c2 := hid (below_any A n c xs A' c' ys B w h hn h')
    have c3 := hid (fun m => below_any A' n c' ys A c xs B (w.drewN m) h' hn h)
    cases h1 : lower xs ys with
    | true =>
      rw [h1] at c2
      clear h1
      go_enter Try.func21, Try.ntmps21
      go_wp2_with fail
      refine c1.out.mono ?_
      rintro e w' ⟨rfl, rfl⟩
      go_wp2_with fail
      refine c2.out.mono ?_
      rintro e w' ⟨rfl, m, rfl⟩
      go_wp2
      go_ret2
      exact ⟨rfl, _, rfl⟩
    | false =>
      rw [h1] at c2
      clear h1
      go_enter Try.func21, Try.ntmps21
      go_wp2_with fail
      refine c1.out.mono ?_
      rintro e w' ⟨rfl, rfl⟩
      go_wp2_with fail
      refine c2.out.mono ?_
      rintro e w' ⟨rfl, m, rfl⟩
      go_wp2_with fail
      refine (c3.out m).mono ?_
      rintro e w' ⟨rfl, m', rfl⟩
      go_wp2
      go_ret2
      exact ⟨rfl, _, rfl⟩

set_option maxHeartbeats 400000 in
theorem Join_any (A : Option Addr) (n c : Nat) (xs : List Int) (A' : Option Addr) (n' c' : Nat) (ys : List Int) (zs : List Int) (r : Int) (hr : joinAns xs ys = (zs, r)) (w : World) (h : Ints w w.heap.size A n xs) (hn : n ≤ maxLen)
    (h' : Ints w w.heap.size A' n' ys) (hn' : n' ≤ maxLen) :
    Calls Try.prog 19 #[.slice A n c, .slice A' n' c'] w fun e w' => ∃ A n c, e = .returned (.tuple #[.slice A n c, .int .i64 r]) ∧ Ints w' w'.heap.size A n zs ∧ n ≤ 16 ∧ Below w.heap.size w w' := by
  have c1 := hid (pairMay_any A n c xs A' n' c' ys _ w h hn h' hn')
  have hl := hid h.len
  have hl' := hid h'.len
  cases hp : pairMay xs ys with
  | false =>
    rw [hp] at c1
    obtain ⟨rfl, rfl⟩ : [] = zs ∧ 1800 = r := by simpa [joinAns, hp] using hr
    clear hp hr
    go_enter Try.func19, Try.ntmps19
    go_wp2_with (go_at_call 64; refine c1.out.mono ?_; rintro e w' ⟨rfl, rfl⟩)
    go_ret2
    exact ⟨none, 0, 0, rfl, Ints.none_ _ _ _, by omega, Below.refl _ _⟩
  | true =>
    rw [hp] at c1
    obtain ⟨hln, hl16⟩ := pairMay_len hp
    obtain ⟨rfl, rfl⟩ : greater xs ys = zs ∧ 0 = r := by simpa [joinAns, hp] using hr
    clear hp hr
    have hn16 : n ≤ 16 := by have := hl.out; omega
    obtain rfl : n = n' := by have := hl.out; have := hl'.out; omega
    have hln' := hid hln
    clear hln
    go_enter Try.func19, Try.ntmps19
    go_wp2_with (first | (go_at_call 64; refine c1.out.mono ?_; rintro e w' ⟨rfl, rfl⟩) | (go_at_call 67; refine (join_any A n c xs A' c' ys _ h (by omega) h').mono ?_; rintro e w' ⟨A6, c6, rfl, hz, hb⟩))
    go_ret2
    exact ⟨_, _, _, rfl, hz, hn16, hb⟩

end Go.Proofs.Ytoigdbllpiffmaa
