/- Layer 2: what tag.pieces yields. -/
import Derived.Test.YtncfgdhofefkbaaTag
import Derived.RangeFuncNested
import Derived.RangeFuncBound
import Derived.RangeFuncCalls
import Derived.RangeFuncLeaves
import Derived.Shelf.Abstract
import Derived.Shelf.RegionOpen
import Derived.WalkKit
import Derived.OwnWalkIn
import Derived.TacticsInMore
import Derived.LoopNIn
import Derived.LoopIn
namespace Go.Proofs.Ytncfgdhofefkbaa
open Go.RowKit Go.Shelf
attribute [local go_sem] Oper.semAt_some

/-- A piece: a text that is no longer than may be. -/
abbrev Piece := { x : ByteArray // x.size ≤ 65536 }

/-- What is yielded. -/
def piecesOf (t : Nat) (xs : List ByteArray) : List ByteArray := oneB t :: xs.flatMap fun x => [be 4 x.size, x]

theorem piecesOf_next {t : Nat} {xs : List ByteArray} {k : Nat} {x : ByteArray} (h : xs[k]? = some x) : piecesOf t (xs.take (k + 1)) = piecesOf t (xs.take k) ++ [be 4 x.size] ++ [x] := by
  unfold piecesOf
  rw [take_next h, List.flatMap_append]
  simp

theorem piecesOf_length (t : Nat) (xs : List ByteArray) : (piecesOf t xs).length = 2 * xs.length + 1 := by
  unfold piecesOf
  rw [List.length_cons]
  congr 1
  induction xs with
  | nil => rfl
  | cons x xs ih =>
    rw [List.flatMap_cons, List.length_append, ih]
    simp
    omega

/-- All blocks below n but one lie as they lay. -/
def KeepB (n a : Nat) (W W' : World) : Prop := W.heap.size ≤ W'.heap.size ∧ ∀ k, k < n → k ≠ a → W'.heap[k]? = W.heap[k]?

section
variable {n a : Nat} {A B C : World}
theorem KeepB.refl (n a : Nat) (W : World) : KeepB n a W W := ⟨Nat.le_refl _, fun _ _ _ => rfl⟩
theorem KeepB.trans (h : KeepB n a A B) (k : KeepB n a B C) : KeepB n a A C := ⟨Nat.le_trans h.1 k.1, fun i hi ha => (k.2 i hi ha).trans (h.2 i hi ha)⟩
theorem KeepB.cell (h : KeepB n a A B) {p : Addr} (hp : p.block < n) (ha : p.block ≠ a) : B.cell? p = A.cell? p := World.cell?_of_block (w := A) (h.2 p.block hp ha)
theorem KeepB.below (hn : n ≤ A.heap.size) (h : Below A.heap.size A B) : KeepB n a A B := ⟨h.size, fun k hk _ => h.block k (by omega)⟩
theorem KeepB.grown (hn : n ≤ A.heap.size) (h : A.grownBy B (some a)) : KeepB n a A B := ⟨h.size, fun k hk ha => h.block k (by omega) (fun e => ha (Option.some.inj e))⟩
theorem KeepB.put (hn : n ≤ C.heap.size) (W : World) (l : Nat) (o o' : Obj) (hl : C.heap.size ≤ l) (_ : W.heap[l]? = some o) (_ : o.isCells = false) (_ : o.isWalk = false) : KeepB n a W (W.putObj l o') :=
  ⟨by simp, fun k hk _ => World.putObj_heap_other (by omega)⟩
end

theorem Texts.keepB {n₁ a : Nat} {W W' : World} {A : Option Addr} {n : Nat} {xs : List ByteArray} (h : Texts W a A n xs) (hk : KeepB n₁ a W W') (ha : a ≤ n₁) : Texts W' a A n xs :=
  At.keep h fun _ hp => hk.cell (by omega) (by omega)

set_option maxRecDepth 100000 in
set_option maxHeartbeats 2000000 in
/-- The iterator of tag.pieces, whatever the loop's body does to the one block a. -/
theorem pieces_stops (m : Nat) (n₁ a b1 b2 : Nat) (h1 : b1 < n₁) (h2 : b2 < n₁) (h2a : b2 ≠ a) (ha1 : a ≤ n₁) (t : Nat) (ht : t < 256) (A : Option Addr) (n c : Nat) (xs : List ByteArray) (hn : n ≤ 100000000000000) (hs : totS xs ≤ 65536)
    (w : World) (hn1 : n₁ ≤ w.heap.size) (c1 : w.cell? ⟨b1, 0, none⟩ = some (.int .i64 (t : Int))) (c2 : w.cell? ⟨b2, 0, none⟩ = some (.slice A n c)) (hX : Texts w a A n xs) :
    SeqStopsK Fence.wide (m + 1) Try.prog 38 #[.pointer (some ⟨b1, 0, none⟩), .pointer (some ⟨b2, 0, none⟩)] (fun x : Piece => #[Value.string x.1]) (KeepB n₁ a) (fun ys => ys.map (·.1) = piecesOf t xs) (fun _ => True) (2 * n + 1) w := fun l J Jx W hW hJ _ hY h0 => by
  have hlen := hX.len
  have d1 := (hW.cell (p := ⟨b1, 0, none⟩) (by show b1 < _; omega)).trans c1
  have d2 := (hW.cell (p := ⟨b2, 0, none⟩) (by show b2 < _; omega)).trans c2
  have hXW : Texts W a A n xs := At.keep hX fun _ hp => hW.cell (by omega)
  have hW1 : n₁ ≤ W.heap.size := Nat.le_trans hn1 hW.size
  have hone : (oneB t).size ≤ 65536 := by show 1 ≤ 65536; omega
  have hbe : ∀ k : Nat, (be 4 k).size ≤ 65536 := fun k => by rw [be_size]; omega
  have hJn : ∀ pre {W1 W2 : World}, W.heap.size ≤ W1.heap.size → J pre W1 → Below W1.heap.size W1 W2 → J pre W2 := fun pre W1 W2 _ hj hb => hJ pre W1 W2 none hj (only_of_below hb none) (fun r e => by cases e)
  refine callsIn_of_wp Try.func38 rfl trivial ?_ rfl
  simp only [Try.ntmps38, List.size_toArray, List.length_cons, List.length_nil, Nat.reduceAdd, Nat.reduceSub, Array.replicate_succ, Array.replicate_zero, List.push_toArray, List.append_toArray, List.nil_append, List.cons_append]
  gi_wp2_with fail
  refine ⟨trivial, (callsIn_wide.2 (U8_any t ht _)).mono ?_⟩
  rintro e W1 ⟨rfl, hb1⟩
  have hJ1 := hJn [] (Nat.le_refl _) h0 hb1
  have hk1 : KeepB n₁ a W W1 := KeepB.below hW1 hb1
  obtain ⟨fn1, tmps1, assign1, body1, hy1, hR1⟩ := hY [] ⟨oneB t, hone⟩ W1 hJ1 (by simp)
  dsimp only at hy1
  gi_wp2_with fail
  refine hR1.mono ?_
  rintro e W2 (⟨rfl, hJ2, hk2⟩ | ⟨rfl, hx2⟩)
  · have hk3 := hk1.trans hk2
    have d3 := (hk3.cell (p := ⟨b2, 0, none⟩) h2 h2a).trans d2
    have hsz2 : W.heap.size ≤ W2.heap.size := hk3.1
    gi_wp2_with fail
    gi_loopw [13] (fun i wr => ∃ (k : Nat) (pre : List Piece), k ≤ n ∧ i = .int .i64 (k : Int) ∧ pre.map (·.1) = piecesOf t (xs.take k) ∧ J pre wr ∧ KeepB n₁ a W wr) (fun i _ => n - (intOf i).toNat)
    case atStart => exact ⟨0, [⟨oneB t, hone⟩], Nat.zero_le _, rfl, rfl, hJ2, hk3⟩
    case round =>
      obtain ⟨k, pre, hk, rfl, hpre, hJp, hkw⟩ := hrel
      by_cases hlt : k < n
      · obtain ⟨p, rfl, hB, x, hxm, hx, hc⟩ := (hXW.keepB hkw ha1).get hlt
        have hxs : x.size ≤ 65536 := Nat.le_trans (totS_size hxm) hs
        have hnx := piecesOf_next (t := t) hx
        have hplen : pre.length = 2 * k + 1 := by
          have := congrArg List.length hpre
          rw [List.length_map, piecesOf_length, List.length_take, hlen] at this
          omega
        have hkn : (k : Int) < (n : Int) := by omega
        have hszr := hkw.1
        have hnx' := hid hnx
        have hkw' := hid hkw
        clear hnx hx hkw
        gi_wp2_with fail
        refine ⟨trivial, (callsIn_wide.2 (U32_any x.size _)).mono ?_⟩
        rintro e W3 ⟨rfl, hb3⟩
        have hJ3 := hJn pre hszr hJp hb3
        have hk4 : KeepB n₁ a W W3 := hkw'.out.trans (KeepB.below (by omega) hb3)
        obtain ⟨fn3, tmps3, assign3, body3, hy3, hR3⟩ := hY pre ⟨be 4 x.size, hbe _⟩ W3 hJ3 (by omega)
        dsimp only at hy3
        gi_wp2_with fail
        refine hR3.mono ?_
        rintro e W4 (⟨rfl, hJ4, hk5⟩ | ⟨rfl, hx4⟩)
        · have hk6 := hk4.trans hk5
          obtain ⟨fn5, tmps5, assign5, body5, hy5, hR5⟩ := hY (pre ++ [⟨be 4 x.size, hbe _⟩]) ⟨x, hxs⟩ W4 hJ4 (by rw [List.length_append]; show pre.length + 1 < _; omega)
          dsimp only at hy5
          gi_wp2_with fail
          refine hR5.mono ?_
          rintro e W5 (⟨rfl, hJ5, hk7⟩ | ⟨rfl, hx5⟩)
          · gi_wp2_with fail
            go_roundw
            case rel => exact ⟨k + 1, _, by omega, by go_num, by rw [List.map_append, List.map_append, hpre, hnx'.out]; rfl, hJ5, hk6.trans hk7⟩
            case measure => simp [intOf]; omega
          · gi_wp2
            refine bodyPost_ret (results_none rfl _ _ _) rfl ?_
            exact ⟨⟨_, rfl⟩, .inr ⟨_, trivial, hx5⟩⟩
        · gi_wp2_with fail
          all_goals
            refine ⟨fun _ h => (by cases h), ?_⟩
            gi_wp2
            refine bodyPost_ret (results_none rfl _ _ _) rfl ?_
            exact ⟨⟨_, rfl⟩, .inr ⟨_, trivial, hx4⟩⟩
      · obtain rfl : k = n := by omega
        have e : xs.take k = xs := List.take_of_length_le (by omega)
        rw [e] at hpre
        gi_wp2
        go_end0
        exact ⟨⟨_, rfl⟩, .inl ⟨pre, hpre, hJp⟩⟩
  · gi_wp2
    refine bodyPost_ret (results_none rfl _ _ _) rfl ?_
    exact ⟨⟨_, rfl⟩, .inr ⟨[⟨oneB t, hone⟩], trivial, hx2⟩⟩

end Go.Proofs.Ytncfgdhofefkbaa
