/- Layer 16: names, the pieces of a path: the program's walks. -/
import Derived.Test.YtapegklffglnoaaPth
import Derived.Test.YtapegklffglnoaaLayS
import Derived.Test.YtapegklffglnoaaSep
import Derived.Test.YtapegklffglnoaaCutS
import Derived.Test.YtapegklffglnoaaClone
import Derived.Test.YtapegklffglnoaaTexts
import Derived.Test.YtapegklffglnoaaTools
import Derived.WalkMore
import Derived.RangeFuncNested
import Derived.RangeFuncBound
import Derived.RangeFuncCalls
import Derived.RangeFuncLeaves
import Derived.RangeFuncBox
import Derived.Shelf.Abstract
import Derived.Shelf.RegionOpen
import Derived.WalkKit
import Derived.OwnWalkIn
import Derived.TacticsInMore
import Derived.LoopNIn
import Derived.LoopIn
namespace Go.Proofs.Ytapegklffglnoaa
open Go.RowKit Go.Shelf
attribute [local go_sem] Oper.semAt_some

theorem containsAny_any (s : ByteArray) (w : World) (hs : s.size < 4294967281) :
    Calls Try.prog 109 #[.string s, .string sepB] w fun e w' => e = .returned (.bool (decide (∃ c ∈ s.data.toList, c = 47 ∨ c = 0))) ∧ Below w.heap.size w w' := by
  have h := Any.ContainsAny_sep Try.lays150 (by kernel_rfl) s w hs
  rw [containsAny_sep] at h
  exact h

theorem cut_any (s : ByteArray) (w : World) (hs : s.size ≤ 4294967281) :
    Calls Try.prog 93 #[.string s, .string ⟨#[47]⟩] w fun e w' => ∃ n r m, e = .returned (.tuple #[.string n, .string r, .bool m]) ∧ Cuts s n r m ∧ ∃ k, w' = w.drewN k := Any.Cut_slash Try.lays145 s w hs

theorem hasSlash_any (s : ByteArray) (w : World) :
    Calls Try.prog 48 #[.string s, .string ⟨#[47]⟩] w fun e w' => e = .returned (.bool (Lib.hasPrefix s.data.toList [47])) ∧ w = w' := (Any.strings_HasPrefix Try.lays99 s ⟨#[47]⟩ w).mono fun _ _ ⟨h1, h2⟩ => ⟨h1, h2.symm⟩

theorem nameOk_iff (s : ByteArray) : Pth.nameOk s.data.toList = decide (1 ≤ s.size ∧ s.size ≤ 24 ∧ s.toList ≠ [46] ∧ s.toList ≠ [46, 46] ∧ ¬ ∃ c ∈ s.data.toList, c = 47 ∨ c = 0) := by
  unfold Pth.nameOk
  rw [data_length, Lib.toList_data]
  apply decide_eq_decide.2
  constructor
  · rintro ⟨h1, h2, h3, h4, h5⟩
    exact ⟨h1, h2, h3, h4, fun ⟨c, hc, h⟩ => by rcases h with h | h; exact (h5 c hc).1 h; exact (h5 c hc).2 h⟩
  · rintro ⟨h1, h2, h3, h4, h5⟩
    exact ⟨h1, h2, h3, h4, fun c hc => ⟨fun h => h5 ⟨c, hc, .inl h⟩, fun h => h5 ⟨c, hc, .inr h⟩⟩⟩

set_option maxRecDepth 100000 in
set_option maxHeartbeats 1000000 in
theorem dirNameMay_any (s : ByteArray) (w : World) (hs : s.size ≤ maxLen) :
    Calls Try.prog 70 #[.string s] w fun e w' => e = .returned (.bool (Pth.nameOk s.data.toList)) ∧ Below w.heap.size w w' := by
  unfold maxLen at hs
  rw [nameOk_iff]
  by_cases h1 : 1 ≤ s.size
  · by_cases h2 : s.size ≤ 24
    · have hc := containsAny_any s w (by omega)
      have h1' : (1 : Int) ≤ (s.size : Int) := by omega
      have h2' : (s.size : Int) ≤ 24 := by omega
      by_cases hx : ∃ c ∈ s.data.toList, c = 47 ∨ c = 0
      · rw [decide_eq_true hx] at hc
        rw [decide_eq_false (fun h => h.2.2.2.2 hx)]
        have hc' := hid hc
        clear hc hx
        go_enter Try.func70, Try.ntmps70
        go_wp2_with (go_at_call 109; refine hc'.out.mono ?_; rintro e w1 ⟨rfl, hb⟩)
        go_ret
        exact ⟨rfl, hb⟩
      · rw [decide_eq_false hx] at hc
        have hc' := hid hc
        have hx' := hid hx
        clear hc hx
        by_cases h3 : s.toList = [46]
        · rw [decide_eq_false (fun h => h.2.2.1 h3)]
          have h3' : (s.toList == [46]) = true := by simp [h3]
          go_enter Try.func70, Try.ntmps70
          go_wp2_with (go_at_call 109; refine hc'.out.mono ?_; rintro e w1 ⟨rfl, hb⟩)
          go_ret
          exact ⟨rfl, hb⟩
        · have h3' : (s.toList == [46]) = false := by simp [h3]
          by_cases h4 : s.toList = [46, 46]
          · rw [decide_eq_false (fun h => h.2.2.2.1 h4)]
            have h4' : (s.toList == [46, 46]) = true := by simp [h4]
            clear h3 h4
            go_enter Try.func70, Try.ntmps70
            go_wp2_with (go_at_call 109; refine hc'.out.mono ?_; rintro e w1 ⟨rfl, hb⟩)
            go_ret
            exact ⟨rfl, hb⟩
          · rw [decide_eq_true ⟨h1, h2, h3, h4, hx'.out⟩]
            have h4' : (s.toList == [46, 46]) = false := by simp [h4]
            clear h3 h4
            go_enter Try.func70, Try.ntmps70
            go_wp2_with (go_at_call 109; refine hc'.out.mono ?_; rintro e w1 ⟨rfl, hb⟩)
            go_ret
            exact ⟨rfl, hb⟩
    · rw [decide_eq_false (fun h => h2 h.2.1)]
      have h1' : (1 : Int) ≤ (s.size : Int) := by omega
      have h2' : ¬ (s.size : Int) ≤ 24 := by omega
      go_enter Try.func70, Try.ntmps70
      go_wp2
      go_ret
      exact ⟨rfl, Below.refl _ _⟩
  · rw [decide_eq_false (fun h => h1 h.1)]
    have h1' : ¬ (1 : Int) ≤ (s.size : Int) := by omega
    go_enter Try.func70, Try.ntmps70
    go_wp2
    go_ret
    exact ⟨rfl, Below.refl _ _⟩

set_option maxRecDepth 100000 in
set_option maxHeartbeats 1000000 in
theorem refMay01_any (w : World) :
    Calls Try.prog 71 #[.agg #[.int .i64 0, .int .i64 1]] w fun e w' => e = .returned (.bool true) ∧ Below w.heap.size w w' := by
  go_enter Try.func71, Try.ntmps71
  go_wp2
  go_ret
  exact ⟨rfl, (Below.refl _ _).alloc (Nat.le_refl _) _⟩

set_option maxRecDepth 100000 in
set_option maxHeartbeats 1000000 in
theorem rising1_any (A : Option Addr) (c : Nat) (f : Value) (w : World) :
    Calls Try.prog 77 #[.slice A 1 c, f] w fun e w' => e = .returned (.bool true) ∧ w = w' := by
  go_enter Try.func77, Try.ntmps77
  go_wp2
  refine wp_loop_rounds 1 ?_
  rw [rounds_succ]
  go_wp2
  go_ret
  exact ⟨rfl, rfl⟩

set_option maxRecDepth 100000 in
set_option maxHeartbeats 2000000 in
/-- A directory of one entry, whose ref is one. -/
theorem may1_any (s : ByteArray) (g c : Nat) (w : World) (hs : s.size ≤ maxLen) (hg : g < w.heap.size) (h0 : w.cell? ⟨g, 0, none⟩ = some (.string s)) (h1 : w.cell? ⟨g, 1, none⟩ = some (.int .i64 0)) (h2 : w.cell? ⟨g, 2, none⟩ = some (.int .i64 1)) :
    Calls Try.prog 33 #[.slice (some ⟨g, 0, none⟩) 1 c] w fun e w' => e = .returned (.bool (Pth.nameOk s.data.toList)) ∧ Below w.heap.size w w' := by
  have hn := dirNameMay_any s
  cases hok : Pth.nameOk s.data.toList with
  | false =>
    rw [hok] at hn
    have hn' := hid hn
    clear hn hok
    go_enter Try.func33, Try.ntmps33
    go_wp2
    refine wp_loop_rounds 2 ?_
    rw [rounds_succ]
    go_wp2_with (go_at_call 70; refine (hn'.out _ hs).mono ?_; rintro e w1 ⟨rfl, hb⟩; have hb' := hid hb; clear hb)
    go_ret
    exact ⟨rfl, ((Below.refl _ _).alloc (Nat.le_refl _) _).trans (hb'.out.mono (by simp))⟩
  | true =>
    rw [hok] at hn
    have hn' := hid hn
    clear hn hok
    go_enter Try.func33, Try.ntmps33
    go_wp2
    refine wp_loop_rounds 2 ?_
    rw [rounds_succ]
    go_wp2_with (go_at_call 70; refine (hn'.out _ hs).mono ?_; rintro e w1 ⟨rfl, hb⟩; have hb' := hid hb; have e1 := (hb.cell (p := ⟨w.heap.size, 1, none⟩) (by simp)); have e2 := (hb.cell (p := ⟨w.heap.size, 2, none⟩) (by simp)); simp at e1 e2; clear hb)
    refine (refMay01_any _).mono ?_
    rintro e w2 ⟨rfl, hb2⟩
    have hb2' := hid hb2
    clear hb2 e1 e2
    go_wp2_with fail
    rw [rounds_succ]
    go_wp2_with (go_at_call 77; refine (rising1_any _ _ _ _).mono ?_; rintro e w' ⟨rfl, rfl⟩)
    go_ret
    exact ⟨rfl, (((Below.refl _ _).alloc (Nat.le_refl _) _).trans (hb'.out.mono (by simp))).trans (hb2'.out.mono (by have := hb'.out.size; simp at this; omega))⟩

set_option maxRecDepth 100000 in
set_option maxHeartbeats 1000000 in
theorem nameMay_any (s : ByteArray) (w : World) (hs : s.size ≤ maxLen) :
    Calls Try.prog 17 #[.string s] w fun e w' => e = .returned (.bool (Pth.nameOk s.data.toList)) ∧ Below w.heap.size w w' := by
  go_enter Try.func17, Try.ntmps17
  go_wp2_with (go_at_call 33; refine (may1_any s w.heap.size 1 _ hs (by simp) (by simp) (by simp) (by simp)).mono ?_; rintro e w1 ⟨rfl, hb⟩; have hb' := hid hb; clear hb)
  go_ret
  exact ⟨rfl, ((Below.refl _ _).alloc (Nat.le_refl _) _).trans (hb'.out.mono (by simp))⟩

/-! The pieces of a text. -/

/-- A text that is no longer than a path may be. -/
abbrev Short := { x : ByteArray // x.size ≤ 128 }

theorem cuts_pieces {s n r : ByteArray} {m : Bool} (h : Cuts s n r m) : Pth.pieces s.data.toList = n.data.toList :: (if m then Pth.pieces r.data.toList else []) := by
  rcases h with ⟨rfl, h1, h2⟩ | ⟨rfl, rfl, h2⟩
  · rw [h1, Pth.pieces_some _ _ h2]
    rfl
  · rw [Pth.pieces_none _ h2]
    rfl

theorem cuts_size {s n r : ByteArray} {m : Bool} (h : Cuts s n r m) : n.size ≤ s.size ∧ (m = true → r.size < s.size) := by
  rcases h with ⟨rfl, h1, h2⟩ | ⟨rfl, rfl, h2⟩
  · have := congrArg List.length h1
    rw [List.length_append, List.length_cons, data_length, data_length, data_length] at this
    exact ⟨by omega, fun _ => by omega⟩
  · exact ⟨Nat.le_refl _, fun h => by cases h⟩

set_option maxRecDepth 100000 in
theorem pieces_any (s : ByteArray) (w : World) :
    Calls Try.prog 49 #[.string s] w fun e w' => e = .returned (.func (.func 92) #[] #[.pointer (some ⟨w.heap.size, 0, none⟩)]) ∧ w' = w.alloc (.cells #[.string s] 9) := by
  go_enter Try.func49, Try.ntmps49
  go_wp2
  go_ret
  exact ⟨rfl, rfl⟩

/-- What is still to come. -/
def leftOf : Value → Value → Nat
  | .string r, .bool true => r.size + 1
  | _, _ => 0

set_option maxRecDepth 100000 in
set_option maxHeartbeats 2000000 in
/-- The iterator of path.names, whatever the loop's body does. -/
theorem names_stops (m : Nat) (b1 : Nat) (s : ByteArray) (hs : s.size ≤ 128) (w : World) (h1 : b1 < w.heap.size) (c1 : w.cell? ⟨b1, 0, none⟩ = some (.string s)) :
    SeqStopsK Fence.wide (m + 1) Try.prog 92 #[.pointer (some ⟨b1, 0, none⟩)] (fun x : Short => #[Value.string x.1]) (fun A B => A.heap.size ≤ B.heap.size) (fun ys => ys.map (·.1.data.toList) = Pth.pieces s.data.toList) (fun ys => ys.map (·.1.data.toList) <+: Pth.pieces s.data.toList) (Pth.pieces s.data.toList).length w := fun l J Jx W hW hJ _ hY h0 => by
  have d1 := (hW.cell (p := ⟨b1, 0, none⟩) (by exact h1)).trans c1
  have hJn : ∀ pre {W1 : World} (k : Nat), W.heap.size ≤ W1.heap.size → J pre W1 → J pre (W1.drewN k) := fun pre W1 k _ hj => hJ pre W1 (W1.drewN k) none hj (only_of_below (below_drewN (Below.refl _ _) k) none) (fun r e => by cases e)
  refine callsIn_of_wp Try.func92 rfl trivial ?_ rfl
  simp only [Try.ntmps92, List.size_toArray, List.length_cons, List.length_nil, Nat.reduceAdd, Nat.reduceSub, Array.replicate_succ, Array.replicate_zero, List.push_toArray, List.append_toArray, List.nil_append, List.cons_append]
  gi_wp2_with fail
  gi_loopw [3, 4] (fun rest more wr => ∃ (r : ByteArray) (mo : Bool) (pre : List Short), rest = .string r ∧ more = .bool mo ∧ (mo = true → r.size ≤ 128) ∧ pre.map (·.1.data.toList) ++ (if mo then Pth.pieces r.data.toList else []) = Pth.pieces s.data.toList ∧ J pre wr ∧ W.heap.size ≤ wr.heap.size) (fun rest more _ => leftOf rest more)
  case atStart => exact ⟨s, true, [], rfl, rfl, fun _ => hs, by simp, h0, Nat.le_refl _⟩
  case round =>
    obtain ⟨r, mo, pre, rfl, rfl, hr, hpre, hJp, hsz⟩ := hrel
    cases mo with
    | false =>
      have hpre' : pre.map (·.1.data.toList) = Pth.pieces s.data.toList := by simpa using hpre
      gi_wp2
      go_end0
      exact ⟨⟨_, rfl⟩, .inl ⟨pre, hpre', hJp⟩⟩
    | true =>
      have hr := hr rfl
      have hpre1 : pre.map (·.1.data.toList) ++ Pth.pieces r.data.toList = Pth.pieces s.data.toList := hpre
      have hpre' := hid hpre1
      clear hpre hpre1
      gi_wp2_with fail
      refine ⟨trivial, (callsIn_wide.2 (cut_any r _ (by omega))).mono ?_⟩
      rintro e W1 ⟨x, r', m', rfl, hcut, k, rfl⟩
      have hJ1 := hJn pre k hsz hJp
      have hp := cuts_pieces hcut
      obtain ⟨hx1, hx2⟩ := cuts_size hcut
      have hall := hpre'.out
      rw [hp] at hall
      have hlen := congrArg List.length hall
      rw [List.length_append, List.length_map, List.length_cons] at hlen
      obtain ⟨fn1, tmps1, assign1, body1, hy1, hR1⟩ := hY pre ⟨x, by omega⟩ _ hJ1 (by omega)
      dsimp only at hy1
      have hall' := hid hall
      have hx2' := hid hx2
      clear hall hlen hp hcut hx2
      gi_wp2_with fail
      refine hR1.mono ?_
      have hall2 : ∀ q : Short, q.1 = x → (pre ++ [q]).map (·.1.data.toList) ++ (if m' = true then Pth.pieces r'.data.toList else []) = Pth.pieces s.data.toList := fun q hq => by
        rw [← hall'.out, List.map_append, List.map_cons, List.map_nil, hq]
        simp
      have hall2' := hid hall2
      clear hall2
      rintro e W2 (⟨rfl, hJ2, hk2⟩ | ⟨rfl, hx3⟩)
      · gi_wp2_with fail
        go_roundw
        case rel => exact ⟨r', m', _, rfl, rfl, fun h => by have := hx2'.out h; omega, hall2'.out _ rfl, hJ2, Nat.le_trans hsz hk2⟩
        case measure =>
          cases m' with
          | false => show 0 < r.size + 1; omega
          | true => show r'.size + 1 < r.size + 1; have := hx2'.out rfl; omega
      · gi_wp2
        refine bodyPost_ret (results_none rfl _ _ _) rfl ?_
        exact ⟨⟨_, rfl⟩, .inr ⟨_, ⟨_, hall2'.out _ rfl⟩, hx3⟩⟩

/-- The names of a path, and its error's number. -/
def splitB (s : ByteArray) : List ByteArray := ((Pth.split s.data.toList).getD []).map fun l => ⟨l.toArray⟩
def splitE (s : ByteArray) : Int := if (Pth.split s.data.toList).isSome then 0 else 1600

theorem split_bad {s : ByteArray} (h : 128 < s.size) : Pth.split s.data.toList = none := by
  unfold Pth.split
  rw [if_neg (fun e => by rw [data_length] at e; omega)]

theorem split_head {s : ByteArray} (h : Lib.hasPrefix s.data.toList [47] = false) : Pth.split s.data.toList = none := by
  unfold Pth.split
  rw [if_neg]
  rintro ⟨_, e⟩
  unfold Lib.hasPrefix at h
  cases hl : s.data.toList with
  | nil => rw [hl] at e; cases e
  | cons c l =>
    rw [hl] at h e
    have : c = 47 := by simpa using e
    subst this
    simp at h

theorem head_of {s : ByteArray} (h : Lib.hasPrefix s.data.toList [47] = true) : ∃ l, s.data.toList = 47 :: l := by
  unfold Lib.hasPrefix at h
  cases hl : s.data.toList with
  | nil => rw [hl] at h; cases h
  | cons c l =>
    rw [hl] at h
    have : 47 = c := by simpa using h
    exact ⟨l, by rw [this]⟩

theorem split_some {s : ByteArray} {l : List UInt8} (h : s.data.toList = 47 :: l) (hs : s.size ≤ 128) (hl : l ≠ []) :
    Pth.split s.data.toList = if (∀ p ∈ Pth.pieces l, Pth.nameOk p = true) ∧ (Pth.pieces l).length ≤ 8 then some (Pth.pieces l) else none := by
  have hlen := data_length s
  rw [h, List.length_cons] at hlen
  unfold Pth.split
  rw [h, if_pos ⟨by rw [List.length_cons]; omega, rfl⟩, if_neg (fun e => hl (by simpa using e))]
  rfl

theorem split_root {s : ByteArray} (h : s.data.toList = [47]) : Pth.split s.data.toList = some [] := by
  unfold Pth.split
  rw [h, if_pos ⟨by decide, rfl⟩, if_pos rfl]

end Go.Proofs.Ytapegklffglnoaa
