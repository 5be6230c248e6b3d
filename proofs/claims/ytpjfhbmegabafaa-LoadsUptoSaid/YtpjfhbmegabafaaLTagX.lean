/- Layer 2, the program's side, beside layer 6: tag.Sum. -/
import Derived.Test.YtpjfhbmegabafaaLNumU
import Derived.Test.YtpjfhbmegabafaaLRangeOwn
import Derived.RangeFuncNested
import Derived.RangeFuncBound
import Derived.RangeFuncCalls
import Derived.RangeFuncLeaves
import Derived.Shelf.Abstract
import Derived.Shelf.RegionOpen
import Derived.WalkKit
import Derived.OwnWalkIn
import Derived.TacticsInMore
import Derived.LoopNIn
import Derived.LoopIn
namespace Go.Proofs.Ytpjfhbmegabafaa
open Go.RowKit
open Go.Lib (strCells strCells_length strCells_oneCell)

/-- A text of one byte. -/
def oneB (t : Nat) : ByteArray := ⟨#[UInt8.ofNat t]⟩

theorem byte_small (t : Nat) (h : t < 256) : ((UInt8.ofNat t).toNat : Int) = (t : Int) := by
  rw [UInt8.toNat_ofNat']
  omega

theorem tU8_any (t : Nat) (ht : t < 256) (w : World) : Calls Try.prog 68 #[.int .i64 (t : Int)] w fun e w' => e = .returned (.string (oneB t)) ∧ Below w.heap.size w w' := by
  have hmod : (t : Int) % 256 = (t : Int) := by omega
  have hcv := row_text (w.alloc (.cells #[.int .u8 (t : Int)] 5)) w.heap.size 1 (oneB t) rfl 5 (by
    have h := Holds.new w 5 #[.int .u8 (t : Int)]
    have e : strCells (oneB t) = [.int .u8 (t : Int)] := by
      rw [← byte_small t ht]
      rfl
    rw [e]
    exact h)
  go_enter Try.func68, Try.ntmps68
  go_wp2
  go_ret
  exact ⟨rfl, (Below.refl _ _).alloc (Nat.le_refl _) _⟩

set_option maxHeartbeats 400000 in
theorem tooLong_any (A : Option Addr) (n c : Nat) (xs : List ByteArray) (B : Nat) (w : World) (h : Texts w B A n xs) (hn : n ≤ 100000000000000) (hs : ∀ s ∈ xs, s.size ≤ 140737488351232) :
    Calls Try.prog 81 #[.slice A n c] w fun e w' => e = .returned (.bool (decide (65536 < totS xs))) ∧ w' = w := by
  have hlen := hid h.len
  go_enter Try.func81, Try.ntmps81
  go_wp2
  go_loopw [3, 8] (fun v i wr => ∃ k : Nat, k ≤ n ∧ totS (xs.take k) ≤ 65536 ∧ i = .int .i64 (k : Int) ∧ v = .int .i64 (65536 - (totS (xs.take k) : Int)) ∧ wr = w) (fun _ i _ => n - (intOf i).toNat)
  case atStart => exact ⟨0, Nat.zero_le _, by simp [totS], rfl, by simp [totS], rfl⟩
  case round =>
    obtain ⟨k, hk, ht, rfl, rfl, rfl⟩ := hrel
    by_cases hlt : k < n
    · obtain ⟨p, rfl, hB, x, hxm, hx, hc⟩ := h.get hlt
      have hxs := hs x hxm
      have hnx := totS_next hx
      have hle := totS_take xs (k + 1)
      have hkn : (k : Int) < (n : Int) := by omega
      have s1 := IntWalk.i64_in (65536 - (totS (xs.take k) : Int) - (x.size : Int)) (by omega)
      have hnx' := hid hnx
      have hle' := hid hle
      generalize totS (xs.take k) = T at *
      clear hx hnx hle
      by_cases hneg : 65536 - (T : Int) - (x.size : Int) < 0
      · go_wp2
        go_ret
        refine ⟨congrArg (fun b => Ending.returned (.bool b)) (Eq.symm (decide_eq_true ?_)), rfl⟩
        have h1 := hnx'.out
        have h2 := hle'.out
        omega
      · go_wp2
        go_roundw
        case rel =>
          have h1 := hnx'.out
          exact ⟨k + 1, by omega, by omega, by go_num, congrArg (Value.int .i64) (by omega), trivial⟩
        case measure => simp [intOf]; omega
    · obtain rfl : k = n := by omega
      have e : xs.take k = xs := List.take_of_length_le (by rw [hlen.out]; exact Nat.le_refl _)
      rw [e] at ht ⊢
      go_wp2
      go_ret
      exact ⟨congrArg (fun b => Ending.returned (.bool b)) (Eq.symm (decide_eq_false (by omega))), rfl⟩

/-- tag.pieces: its arguments in boxes, and the function value that has them. -/
theorem pieces_any (t : Int) (A : Option Addr) (n c : Nat) (w : World) : Calls Try.prog 83 #[.int .i64 t, .slice A n c] w fun e w' =>
    e = .returned (.func (.func 95) #[] #[.pointer (some ⟨w.heap.size, 0, none⟩), .pointer (some ⟨w.heap.size + 1, 0, none⟩)]) ∧
      w' = (w.alloc (.cells #[.int .i64 t] 3)).alloc (.cells #[.slice A n c] 50) := by
  go_enter Try.func83, Try.ntmps83
  go_wp2
  go_ret
  exact ⟨rfl, rfl⟩

end Go.Proofs.Ytpjfhbmegabafaa
namespace Go.Proofs.Ytpjfhbmegabafaa
open Go.RowKit Go.Shelf
attribute [local go_sem] Oper.semAt_some

/-- A piece: a text that is no longer than may be. -/
abbrev Piece := { x : ByteArray // x.size ≤ 65536 }

/-- What is yielded. -/
def piecesOf (t : Nat) (xs : List ByteArray) : List ByteArray := oneB t :: xs.flatMap fun x => [be 4 x.size, x]

theorem piecesOf_next {t : Nat} {xs : List ByteArray} {k : Nat} {x : ByteArray} (h : xs[k]? = some x) : piecesOf t (xs.take (k + 1)) = piecesOf t (xs.take k) ++ [be 4 x.size] ++ [x] := by
  unfold piecesOf
  rw [take_next h, List.flatMap_append]
  simp

theorem piecesOf_length (t : Nat) (xs : List ByteArray) : (piecesOf t xs).length = 2 * xs.length + 1 := by
  unfold piecesOf
  rw [List.length_cons]
  congr 1
  induction xs with
  | nil => rfl
  | cons x xs ih =>
    rw [List.flatMap_cons, List.length_append, ih]
    simp
    omega

theorem Texts.keepB {n₁ a : Nat} {W W' : World} {A : Option Addr} {n : Nat} {xs : List ByteArray} (h : Texts W a A n xs) (hk : KeepB n₁ a W W') (ha : a ≤ n₁) : Texts W' a A n xs :=
  At.keep h fun _ hp => hk.cell (by omega) (by omega)

set_option maxRecDepth 100000 in
set_option maxHeartbeats 2000000 in
/-- The iterator of tag.pieces, whatever the loop's body does to the one block a. -/
theorem pieces_stops (m : Nat) (n₁ a b1 b2 : Nat) (h1 : b1 < n₁) (h2 : b2 < n₁) (h2a : b2 ≠ a) (ha1 : a ≤ n₁) (t : Nat) (ht : t < 256) (A : Option Addr) (n c : Nat) (xs : List ByteArray) (hn : n ≤ 100000000000000) (hs : totS xs ≤ 65536)
    (w : World) (hn1 : n₁ ≤ w.heap.size) (c1 : w.cell? ⟨b1, 0, none⟩ = some (.int .i64 (t : Int))) (c2 : w.cell? ⟨b2, 0, none⟩ = some (.slice A n c)) (hX : Texts w a A n xs) :
    SeqStopsK Fence.wide (m + 1) Try.prog 95 #[.pointer (some ⟨b1, 0, none⟩), .pointer (some ⟨b2, 0, none⟩)] (fun x : Piece => #[Value.string x.1]) (KeepB n₁ a) (fun ys => ys.map (·.1) = piecesOf t xs) (fun _ => True) (2 * n + 1) w := fun l J Jx W hW hJ _ hY h0 => by
  have hlen := hX.len
  have d1 := (hW.cell (p := ⟨b1, 0, none⟩) (by show b1 < _; omega)).trans c1
  have d2 := (hW.cell (p := ⟨b2, 0, none⟩) (by show b2 < _; omega)).trans c2
  have hXW : Texts W a A n xs := At.keep hX fun _ hp => hW.cell (by omega)
  have hW1 : n₁ ≤ W.heap.size := Nat.le_trans hn1 hW.size
  have hone : (oneB t).size ≤ 65536 := by show 1 ≤ 65536; omega
  have hbe : ∀ k : Nat, (be 4 k).size ≤ 65536 := fun k => by rw [be_size]; omega
  have hJn : ∀ pre {W1 W2 : World}, W.heap.size ≤ W1.heap.size → J pre W1 → Below W1.heap.size W1 W2 → J pre W2 := fun pre W1 W2 _ hj hb => hJ pre W1 W2 none hj (only_of_below hb none) (fun r e => by cases e)
  refine callsIn_of_wp Try.func95 rfl trivial ?_ rfl
  simp only [Try.ntmps95, List.size_toArray, List.length_cons, List.length_nil, Nat.reduceAdd, Nat.reduceSub, Array.replicate_succ, Array.replicate_zero, List.push_toArray, List.append_toArray, List.nil_append, List.cons_append]
  gi_wp2_with fail
  refine ⟨trivial, (callsIn_wide.2 (tU8_any t ht _)).mono ?_⟩
  rintro e W1 ⟨rfl, hb1⟩
  have hJ1 := hJn [] (Nat.le_refl _) h0 hb1
  have hk1 : KeepB n₁ a W W1 := KeepB.below hW1 hb1
  obtain ⟨fn1, tmps1, assign1, body1, hy1, hR1⟩ := hY [] ⟨oneB t, hone⟩ W1 hJ1 (by simp)
  dsimp only at hy1
  gi_wp2_with fail
  refine hR1.mono ?_
  rintro e W2 (⟨rfl, hJ2, hk2⟩ | ⟨rfl, hx2⟩)
  · have hk3 := hk1.trans hk2
    have d3 := (hk3.cell (p := ⟨b2, 0, none⟩) h2 h2a).trans d2
    have hsz2 : W.heap.size ≤ W2.heap.size := hk3.1
    gi_wp2_with fail
    gi_loopw [13] (fun i wr => ∃ (k : Nat) (pre : List Piece), k ≤ n ∧ i = .int .i64 (k : Int) ∧ pre.map (·.1) = piecesOf t (xs.take k) ∧ J pre wr ∧ KeepB n₁ a W wr) (fun i _ => n - (intOf i).toNat)
    case atStart => exact ⟨0, [⟨oneB t, hone⟩], Nat.zero_le _, rfl, rfl, hJ2, hk3⟩
    case round =>
      obtain ⟨k, pre, hk, rfl, hpre, hJp, hkw⟩ := hrel
      by_cases hlt : k < n
      · obtain ⟨p, rfl, hB, x, hxm, hx, hc⟩ := (hXW.keepB hkw ha1).get hlt
        have hxs : x.size ≤ 65536 := Nat.le_trans (totS_size hxm) hs
        have hnx := piecesOf_next (t := t) hx
        have hplen : pre.length = 2 * k + 1 := by
          have := congrArg List.length hpre
          rw [List.length_map, piecesOf_length, List.length_take, hlen] at this
          omega
        have hkn : (k : Int) < (n : Int) := by omega
        have hszr := hkw.1
        have hnx' := hid hnx
        have hkw' := hid hkw
        clear hnx hx hkw
        gi_wp2_with fail
        refine ⟨trivial, (callsIn_wide.2 (U32_any x.size _)).mono ?_⟩
        rintro e W3 ⟨rfl, hb3⟩
        have hJ3 := hJn pre hszr hJp hb3
        have hk4 : KeepB n₁ a W W3 := hkw'.out.trans (KeepB.below (by omega) hb3)
        obtain ⟨fn3, tmps3, assign3, body3, hy3, hR3⟩ := hY pre ⟨be 4 x.size, hbe _⟩ W3 hJ3 (by omega)
        dsimp only at hy3
        gi_wp2_with fail
        refine hR3.mono ?_
        rintro e W4 (⟨rfl, hJ4, hk5⟩ | ⟨rfl, hx4⟩)
        · have hk6 := hk4.trans hk5
          obtain ⟨fn5, tmps5, assign5, body5, hy5, hR5⟩ := hY (pre ++ [⟨be 4 x.size, hbe _⟩]) ⟨x, hxs⟩ W4 hJ4 (by rw [List.length_append]; show pre.length + 1 < _; omega)
          dsimp only at hy5
          gi_wp2_with fail
          refine hR5.mono ?_
          rintro e W5 (⟨rfl, hJ5, hk7⟩ | ⟨rfl, hx5⟩)
          · gi_wp2_with fail
            go_roundw
            case rel => exact ⟨k + 1, _, by omega, by go_num, by rw [List.map_append, List.map_append, hpre, hnx'.out]; rfl, hJ5, hk6.trans hk7⟩
            case measure => simp [intOf]; omega
          · gi_wp2
            refine bodyPost_ret (results_none rfl _ _ _) rfl ?_
            exact ⟨⟨_, rfl⟩, .inr ⟨_, trivial, hx5⟩⟩
        · gi_wp2_with fail
          all_goals
            refine ⟨fun _ h => (by cases h), ?_⟩
            gi_wp2
            refine bodyPost_ret (results_none rfl _ _ _) rfl ?_
            exact ⟨⟨_, rfl⟩, .inr ⟨_, trivial, hx4⟩⟩
      · obtain rfl : k = n := by omega
        have e : xs.take k = xs := List.take_of_length_le (by omega)
        rw [e] at hpre
        gi_wp2
        go_end0
        exact ⟨⟨_, rfl⟩, .inl ⟨pre, hpre, hJp⟩⟩
  · gi_wp2
    refine bodyPost_ret (results_none rfl _ _ _) rfl ?_
    exact ⟨⟨_, rfl⟩, .inr ⟨[⟨oneB t, hone⟩], trivial, hx2⟩⟩

end Go.Proofs.Ytpjfhbmegabafaa
namespace Go.Proofs.Ytpjfhbmegabafaa
open Go.RowKit Go.Shelf
attribute [local go_sem] Oper.semAt_some
attribute [local irreducible] Sha.compress Sha.blocks Sha.sha Sha.pad

theorem sha_length' (t : List UInt8) : (Sha.sha t).length = 32 := by
  rw [Sha.sha_def]
  simp [Sha.S8.bytes, bytes_length]

theorem setCells_far (w : World) (g o : Nat) (vs : List Value) (k : Nat) (h : k ≠ g) : (w.setCells g o vs).heap[k]? = w.heap[k]? := by
  induction vs generalizing w o with
  | nil => rfl
  | cons v vs ih => exact (ih _ (o + 1)).trans (heap_setCell_other w ⟨g, o, none⟩ k v h)

/-- What has come, joined. -/
def flatP (pre : List Piece) : List UInt8 := pre.flatMap fun x => x.1.data.toList

theorem flatP_snoc (pre : List Piece) (x : Piece) : flatP (pre ++ [x]) = flatP pre ++ x.1.data.toList := by simp [flatP]

theorem flatP_length (pre : List Piece) : (flatP pre).length ≤ pre.length * 65536 := by
  induction pre with
  | nil => exact Nat.le_refl _
  | cons x pre ih =>
    have h1 : (flatP (x :: pre)).length = x.1.data.toList.length + (flatP pre).length := by simp [flatP]
    have h2 := data_length x.1
    have h3 := x.2
    rw [h1, List.length_cons, Nat.succ_mul]
    omega

theorem flatP_tag (t : Nat) (xs : List ByteArray) (ys : List Piece) (h : ys.map (·.1) = piecesOf t xs) : flatP ys = tagL t xs := by
  have e : flatP ys = (ys.map (·.1)).flatMap fun x => x.data.toList := by simp [flatP]
  rw [e, h]
  unfold piecesOf tagL
  rw [List.flatMap_cons, List.flatMap_assoc]
  have e1 : (oneB t).data.toList = [UInt8.ofNat t] := rfl
  rw [e1, List.singleton_append]
  congr 1
  congr 1
  funext x
  rw [List.flatMap_cons, List.flatMap_cons, List.flatMap_nil, List.append_nil]
  rfl

theorem dig_kept {W W' : World} {row : Option Nat} {g : Nat} {t : List UInt8} (h : Dig W g t) (hg : W.grownBy W' row) (hrow : ∀ r, row = some r → ∃ o : Obj, W.heap[r]? = some o ∧ o.isCells = false) : Dig W' g t := by
  obtain ⟨s, r, h1, h2, h3⟩ := h
  exact ⟨s, r, h1, h2, holds_kept h3 hg hrow⟩

theorem results_cell_tmp {P : Program} {fn : Func} {p q : Tmp} {ty : TypeId} (h : fn.results = #[.cell p ty, .tmp q]) (tmps : Array Value) (w : World) (g : Nat) (t : TypeId) (cs : Array Value) (fr : Nat × Nat) (d : TypeDesc)
    (hp : tmps.getD p undef = .pointer (some ⟨g, 0, none⟩)) (hg : w.heap[g]? = some (.cells cs t fr)) (v : Value) (hq : tmps.getD q undef = v)
    (hu : P.underlying ty = some d) (hd : (match d with | .struct _ | .array _ _ => true | _ => false) = true) (hi : (P.info? ty).map (·.size) = some cs.size) :
    (results fn tmps).run P w = .ok (.tuple #[.agg cs, v]) w := by
  have hp' : tmps[p]?.getD undef = .pointer (some ⟨g, 0, none⟩) := by simpa using hp
  have hq' : tmps[q]?.getD undef = v := by simpa using hq
  simp [results, h, hp', hq', asAddr, run_loadVar_row w g t ty cs fr d hg hu hd hi]

noncomputable def tsPart (n : Nat) : Code := partSeq n ((Try.f62.body).getD .skip)
noncomputable def tsTail : Code := dropSeq 3 ((Try.f62.body).getD .skip)
theorem ts_body : Try.f62.body = some (.seq (tsPart 0) (.seq (tsPart 1) (.seq (tsPart 2) tsTail))) := by kernel_rfl

set_option maxRecDepth 100000 in
set_option maxHeartbeats 2000000 in
theorem tagSum_any (t : Int) (A : Option Addr) (n c : Nat) (xs : List ByteArray) (w : World) (hX : Texts w w.heap.size A n xs) (hn : n ≤ 10000000000000) (hs : ∀ s ∈ xs, s.size ≤ 140737488351232) :
    Calls Try.prog 62 #[.int .i64 t, .slice A n c] w fun e w' => e = .returned (.tuple #[(tagAns t xs).1, .int .i64 (tagAns t xs).2]) ∧ Below w.heap.size w w' := by
  obtain ⟨⟨v, r⟩, hans0⟩ : ∃ a, tagAns t xs = a := ⟨_, rfl⟩
  rw [hans0]
  have hans0' := hid hans0
  clear hans0
  obtain ⟨W1, hW1⟩ : ∃ W1, w.alloc (.cells z32 33) = W1 := ⟨_, rfl⟩
  have hH1 : Holds W1 w.heap.size 33 z32.toList := by rw [← hW1]; exact Holds.new w _ _
  have hb1 : Below w.heap.size w W1 := by rw [← hW1]; exact (Below.refl _ _).alloc (Nat.le_refl _) _
  have hs1 : W1.heap.size = w.heap.size + 1 := by rw [← hW1]; simp
  have hX1 : Texts W1 w.heap.size A n xs := hX.below hb1
  have hW1' := hid hW1
  have hH1' := hid hH1
  have hb1' := hid hb1
  have hs1' := hid hs1
  have hlong := hid (tooLong_any A n c xs w.heap.size W1 hX1 (by omega) hs)
  have hX1' := hid hX1
  clear hW1 hH1 hb1 hs1 hX1 hX
  refine callsIn_wide.1 (callsIn_of_wp_marks (n := 10) Try.func62 ts_body trivial ?_ rfl)
  have hfr : (#[.int .i64 t, .slice A n c] ++ Array.replicate (Try.f62.ntmps - (#[.int .i64 t, .slice A n c] : Array Value).size) undef : Array Value) = #[.int .i64 t, .slice A n c, undef, undef, undef, undef, undef, undef, undef, undef, undef, undef, undef, undef, undef, undef, undef, undef, undef, undef, undef, undef, undef, undef, undef, undef, undef, undef, undef] := by kernel_rfl
  rw [hfr]
  refine wpIn_wide.2 ?_
  refine wp_seq ?_
  conv => arg 2; whnf
  go_wp2_with ((with_reducible refine at_slot (some 4) ?_); refine wpList_run rfl (.pointer (some ⟨w.heap.size, 0, none⟩)) (w.alloc (.cells z32 33)) (by kernel_rfl) ?_; rw [hW1'.out])
  by_cases hmay : tagMay t xs = true
  · have hans : tagAns t xs = (hashV (tagL t.toNat xs), 0) := by unfold tagAns; rw [if_pos hmay]
    obtain ⟨ht0, ht4, htot⟩ : 0 ≤ t ∧ t ≤ 4 ∧ totS xs ≤ 65536 := by
      simp only [tagMay, decide_eq_true_eq] at hmay
      exact hmay
    have hv : v = hashV (tagL t.toNat xs) ∧ r = 0 := by
      have h := hans0'.out
      rw [hans] at h
      exact ⟨(Prod.mk.inj h).1.symm, (Prod.mk.inj h).2.symm⟩
    have hv' := hid hv
    obtain ⟨t, rfl⟩ : ∃ k : Nat, t = k := ⟨t.toNat, by omega⟩
    have hn0 : ¬ (t : Int) < 0 := by omega
    have hn4 : ¬ 4 < (t : Int) := by omega
    have hlong' := hid (hlong.out.mono (R' := fun e w' => e = .returned (.bool false) ∧ w' = W1) fun _ _ ⟨he, hw⟩ => ⟨by rw [he, decide_eq_false (by omega)], hw⟩)
    clear hlong hv hans hmay
    conv => arg 2; whnf
    go_wp2_with (go_at_call 81; refine hlong'.out.mono ?_; rintro e w' ⟨rfl, rfl⟩)
    conv => arg 2; whnf
    go_wp2_with fail
    refine (new_any _).mono ?_
    rintro e W2 ⟨a, rfl, hal, hd2, hb2⟩
    go_wp2_with fail
    conv => arg 2; whnf
    go_wp2_with (go_at_call 83; refine (pieces_any _ _ _ _ _).mono ?_; rintro e w' ⟨rfl, rfl⟩)
    have haw : a < W2.heap.size := hd2.lt
    have hw2 := hb2.size
    have hW1s := hs1'.out
    obtain ⟨W0, hW0⟩ : ∃ W0, ((W2.alloc (.cells #[.pointer (some ⟨a, 0, none⟩)] 157)).alloc (.cells #[.int .i64 (t : Int)] 3)).alloc (.cells #[.slice A n c] 50) = W0 := ⟨_, rfl⟩
    have hb20 : Below W2.heap.size W2 W0 := by rw [← hW0]; exact (((Below.refl _ _).alloc (Nat.le_refl _) _).alloc (by simp) _).alloc (by simp; omega) _
    have hs0 : W0.heap.size = W2.heap.size + 3 := by rw [← hW0]; simp
    have e6 : W0.heap[W2.heap.size]? = some (.cells #[.pointer (some ⟨a, 0, none⟩)] 157 (0, 0)) := by rw [← hW0]; exact heap_up _ _ _ _ (heap_up _ _ _ _ (heap_at _ _ _ rfl))
    have e7 : W0.heap[W2.heap.size + 1]? = some (.cells #[.int .i64 (t : Int)] 3 (0, 0)) := by rw [← hW0]; exact heap_up _ _ _ _ (heap_at _ _ _ (by simp))
    have e8 : W0.heap[W2.heap.size + 1 + 1]? = some (.cells #[.slice A n c] 50 (0, 0)) := by rw [← hW0]; exact heap_at _ _ _ (by simp)
    have c6 := cell_of_row W0 W2.heap.size 0 _ _ _ e6
    have c7 := cell_of_row W0 (W2.heap.size + 1) 0 _ _ _ e7
    have c8 := cell_of_row W0 (W2.heap.size + 1 + 1) 0 _ _ _ e8
    have hX0 : Texts W0 a A n xs := ((hX1'.out.below (hb2.mono (by omega))).below (hb20.mono (by omega))).more (by omega)
    have hd0 : Dig W0 a [] := hd2.below hb20 haw
    have hh0 : Holds W0 w.heap.size 33 z32.toList := (hH1'.out.below hb2 (by omega)).below hb20 (by omega)
    have hbw0 : Below w.heap.size w W0 := (hb1'.out.trans (hb2.mono (by omega))).trans (hb20.mono (by omega))
    rw [hW0]
    have hstops := hid (pieces_stops 8 W0.heap.size a (W2.heap.size + 1) (W2.heap.size + 1 + 1) (by omega) (by omega) (by omega) (by omega) t (by omega) A n c xs (by omega) htot W0 (Nat.le_refl _) c7 c8 hX0)
    clear hW0 e6 e7 e8 c7 c8 hX0 hb20
    refine (wpIn_wide (n := 10)).1 ?_
    refine wpIn_rangeFunc_ownF rfl (by omega) (gf := 95) (lb := #[.pointer (some ⟨W2.heap.size + 1, 0, none⟩), .pointer (some ⟨W2.heap.size + 1 + 1, 0, none⟩)]) rfl trivial (enters_of Try.func95 (by kernel_rfl) rfl)
      hstops.out KeepB.trans (KeepB.put (Nat.le_refl _)) (Below.refl _ _) (fun _ => rfl)
      (fun pre W => (W.cell? ⟨W2.heap.size, 0, none⟩ = some (.pointer (some ⟨a, 0, none⟩)) ∧ Dig W a (flatP pre) ∧ Holds W w.heap.size 33 z32.toList ∧ W0.heap.size ≤ W.heap.size) ∧ Below w.heap.size w W)
      (fun _ _ _ => False)
      (OwnFrom.and (Own.from (fun s A B row hs hg hr => ⟨cell_kept hs.1 hg hr, dig_kept hs.2.1 hg hr, holds_kept hs.2.2.1 hg hr, Nat.le_trans hs.2.2.2 hg.size⟩) _) (ownFrom_below (Nat.le_refl _) (by omega)))
      (fun _ _ _ _ _ hs _ _ => hs)
      ⟨⟨c6, hd0, hh0, Nat.le_refl _⟩, hbw0⟩
      (fun x => { tmps := #[.int .i64 (t : Int), .slice A n c, undef, undef, .pointer (some ⟨w.heap.size, 0, none⟩), .int .i64 0, .pointer (some ⟨W2.heap.size, 0, none⟩), .string x.1, .int .i64 (t : Int), .bool false, .bool false, .int .i64 (t : Int), .bool false, .bool false, .bool false, .slice A n c, .bool false, .bool false, undef, .pointer (some ⟨a, 0, none⟩), .int .i64 (t : Int), .slice A n c, .func (.func 95) #[] #[.pointer (some ⟨W2.heap.size + 1, 0, none⟩), .pointer (some ⟨W2.heap.size + 1 + 1, 0, none⟩)], .string x.1, undef, undef, undef, undef, undef], defers := [] }) ?assign ?body ?done ?stop
    case assign =>
      intro l x W K hK
      gi_wp2
      exact hK
    case body =>
      rintro l pre x W ⟨⟨hc6, hd, hh, hsz⟩, hB⟩ hlt
      have hfl := flatP_length pre
      have hx2 := x.2
      have hhlt := hh.lt
      have hne : w.heap.size ≠ a := by omega
      gi_wp2_with fail
      refine ⟨trivial, (CallsIn.inRound l (callsIn_wide.2 (write_any a (flatP pre) x.1 W hd (by omega)))).mono ?_⟩
      rintro e W' ⟨rfl, hd', hg⟩
      rw [← flatP_snoc] at hd'
      have hc6' := (World.cell?_of_block (w := W) (a := ⟨W2.heap.size, 0, none⟩) (hg.block W2.heap.size (by omega) (fun e => by have := Option.some.inj e; omega))).trans hc6
      have hh' := hh.grown hg (fun e => hne (Option.some.inj e))
      have hB' := hB.grown hg (by omega) (fun k e => by have := Option.some.inj e; omega)
      have hko : KeepsOthers W W' := KeepsOthers.of_grownBy hg (fun j o e ho => by
        obtain rfl := Option.some.inj e
        obtain ⟨s, rr, _, _, h3⟩ := hd
        unfold Holds at h3
        rw [h3] at ho
        obtain rfl := Option.some.inj ho
        rfl)
      have hkb := KeepB.grown (n := W0.heap.size) hsz hg
      have hsz' := Nat.le_trans hsz hg.size
      gi_wp2
      exact ⟨hko, hkb, ⟨hc6', hd', hh', hsz'⟩, hB'⟩
    case done =>
      rintro D ys W hD hys ⟨⟨hc6, hd, hh, hsz⟩, hB⟩ hK
      rw [flatP_tag t xs ys hys] at hd
      have hlen := tagL_length t xs
      have hxl := hX1'.out.len
      have hhlt := hh.lt
      have hKlt := (Array.getElem?_eq_some_iff.1 hK).1
      have hd' := hid hd
      have hh' := hid hh
      have hB' := hid hB
      have hK' := hid hK
      clear hd hh hB hK hys
      go_wp2_with fail
      refine (dsum_any a _ _ hd'.out (by omega)).mono ?_
      rintro e W3 ⟨rfl, hb3⟩
      have hh3 := hh'.out.below hb3 hhlt
      have hcl : (byteCells (Sha.sha (tagL t xs))).length = 32 := by rw [byteCells_length, sha_length']
      have hth : W3.there w.heap.size 0 (byteCells (Sha.sha (tagL t xs))).toArray.size := hh3.there 0 _ (by rw [List.size_toArray, hcl]; decide)
      have hrs := hh3.put 0 (byteCells (Sha.sha (tagL t xs))) (by rw [hcl]; decide)
      rw [put_all _ _ (by rw [hcl]; decide)] at hrs
      have hb4 := below_setCells (hB'.out.trans (hb3.mono (by omega))) w.heap.size 0 (byteCells (Sha.sha (tagL t xs))) (Nat.le_refl _)
      have hK4 : (W3.setCells w.heap.size 0 (byteCells (Sha.sha (tagL t xs)))).heap[D]? = some (.deferred (some [])) := by
        rw [setCells_far W3 w.heap.size 0 _ D (by omega)]
        exact (hb3.block D hKlt).trans hK'.out
      have h1c := all_oneCell_toArray (byteCells_one (Sha.sha (tagL t xs)))
      rename_i hK1
      refine hK1 _ _ ?_
      refine wpList_store_mid rfl 33 (.tmp 4) (.tmp 28) rfl w.heap.size 0 (byteCells (Sha.sha (tagL t xs))).toArray rfl rfl (by exact hth) (by rw [Try.infoHash, List.size_toArray, hcl]) (by exact h1c) ?_
      have hrs' := hid hrs
      have hb4' := hid hb4
      have hK4' := hid hK4
      clear hrs hb4 hK4 hth hh3 h1c
      generalize hW4 : World.setCells _ _ _ _ = W4
      have e4 : W3.setCells w.heap.size 0 (byteCells (Sha.sha (tagL t xs))) = W4 := hW4
      rw [e4] at hrs' hb4' hK4'
      clear hW4 e4
      go_wp2
      refine ⟨by simp, .inl ⟨_, _, rfl, run_takeDeferred hK4'.out, ?_⟩⟩
      have hrp : (W4.putObj D (.deferred none)).heap[w.heap.size]? = some (.cells (byteCells (Sha.sha (tagL t xs))).toArray 33 (0, 0)) := (World.putObj_heap_other (by omega)).trans hrs'.out
      exact ⟨_, results_cell_tmp rfl _ _ w.heap.size 33 _ (0, 0) _ rfl hrp (.int .i64 0) rfl Try.underlying33 rfl (by rw [Try.infoHash, List.size_toArray, hcl]),
        by rw [hv'.out.1, hv'.out.2]; rfl, hb4'.out.trans (belowK_b (w := w) (Nat.le_refl _) W4 D _ _ (by omega) hK4'.out rfl rfl)⟩
    case stop =>
      rintro D c pre W _ _ h _
      exact h.elim
  · have hans : tagAns t xs = (.agg z32, 200) := by unfold tagAns; rw [if_neg hmay]
    have hno : t < 0 ∨ 4 < t ∨ 65536 < totS xs := by
      simp only [tagMay, decide_eq_true_eq] at hmay
      omega
    have hv : v = .agg z32 ∧ r = 200 := by
      have h := hans0'.out
      rw [hans] at h
      exact ⟨(Prod.mk.inj h).1.symm, (Prod.mk.inj h).2.symm⟩
    have hv' := hid hv
    clear hv
    have hth : W1.there w.heap.size 0 32 := hH1'.out.there 0 32 (by decide)
    have hend : ∀ W2, W1.setCells w.heap.size 0 z32.toList = W2 → Holds W2 w.heap.size 33 z32.toList ∧ Below w.heap.size w W2 := by
      rintro W2 rfl
      have h1 := hH1'.out.put 0 z32.toList (Nat.le_refl _)
      rw [put_all _ _ rfl] at h1
      exact ⟨h1, below_setCells hb1'.out _ _ _ (Nat.le_refl _)⟩
    have hend' := hid hend
    clear hend hmay hans
    have hz1 : z32.all (·.oneCell') = true := by kernel_rfl
    by_cases ht0 : t < 0
    · conv => arg 2; whnf
      go_wp2_with (first
        | ((with_reducible refine at_slot (some 18) ?_); refine wpList_run rfl (.agg z32) _ (by kernel_rfl) ?_)
        | ((with_reducible refine at_slot none ?_); refine wpList_store_mid rfl 33 (.tmp 4) (.tmp 18) rfl w.heap.size 0 z32 rfl rfl (by exact hth) (by exact Try.infoHash) (by exact hz1) ?_; generalize hW2 : World.setCells _ _ _ _ = W2))
      obtain ⟨hH2, hb2⟩ := hend'.out _ hW2
      exact ⟨_, results_cell_tmp rfl _ _ w.heap.size 33 z32 (0, 0) _ rfl hH2 (.int .i64 200) rfl Try.underlying33 rfl (by exact Try.infoHash), by rw [hv'.out.1, hv'.out.2], hb2⟩
    · by_cases ht4 : 4 < t
      · conv => arg 2; whnf
        go_wp2_with (first
          | ((with_reducible refine at_slot (some 18) ?_); refine wpList_run rfl (.agg z32) _ (by kernel_rfl) ?_)
          | ((with_reducible refine at_slot none ?_); refine wpList_store_mid rfl 33 (.tmp 4) (.tmp 18) rfl w.heap.size 0 z32 rfl rfl (by exact hth) (by exact Try.infoHash) (by exact hz1) ?_; generalize hW2 : World.setCells _ _ _ _ = W2))
        obtain ⟨hH2, hb2⟩ := hend'.out _ hW2
        exact ⟨_, results_cell_tmp rfl _ _ w.heap.size 33 z32 (0, 0) _ rfl hH2 (.int .i64 200) rfl Try.underlying33 rfl (by exact Try.infoHash), by rw [hv'.out.1, hv'.out.2], hb2⟩
      · have htot : 65536 < totS xs := by omega
        have hlong' := hid (hlong.out.mono (R' := fun e w' => e = .returned (.bool true) ∧ w' = W1) fun _ _ ⟨he, hw⟩ => ⟨by rw [he, decide_eq_true htot], hw⟩)
        clear hlong
        conv => arg 2; whnf
        go_wp2_with (first
          | (go_at_call 81; refine hlong'.out.mono ?_; rintro e w' ⟨rfl, rfl⟩)
          | ((with_reducible refine at_slot (some 18) ?_); refine wpList_run rfl (.agg z32) _ (by kernel_rfl) ?_)
          | ((with_reducible refine at_slot none ?_); refine wpList_store_mid rfl 33 (.tmp 4) (.tmp 18) rfl w.heap.size 0 z32 rfl rfl (by exact hth) (by exact Try.infoHash) (by exact hz1) ?_; generalize hW2 : World.setCells _ _ _ _ = W2))
        obtain ⟨hH2, hb2⟩ := hend'.out _ hW2
        exact ⟨_, results_cell_tmp rfl _ _ w.heap.size 33 z32 (0, 0) _ rfl hH2 (.int .i64 200) rfl Try.underlying33 rfl (by exact Try.infoHash), by rw [hv'.out.1, hv'.out.2], hb2⟩

end Go.Proofs.Ytpjfhbmegabafaa
