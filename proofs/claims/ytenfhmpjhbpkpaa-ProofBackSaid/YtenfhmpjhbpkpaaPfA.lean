/- The library's contract of slices.Reverse, laid at the turns of this program.
   Layer 10, the program's side: the way down.
   Layer 10, the program's side: the node over two, the roots beside the way.
   Layer 10, the program's side: the roots beside the way. -/
import Derived.Shelf.SlicesQ.Reverse
import Derived.Lib.RowBridge
import Derived.Test.YtenfhmpjhbpkpaaHashs
import Derived.Test.YtenfhmpjhbpkpaaMlogB
import Derived.Test.YtenfhmpjhbpkpaaMth
import Derived.Deep.LoopGhost
import Derived.Test.YtenfhmpjhbpkpaaInOps
namespace Go.Proofs.Ytenfhmpjhbpkpaa
open Go.Shelf Go.RowKit
def Try.revTurn_ren : Go.Shelf.Ren := ⟨fun | 35 => 63 | n => n, fun | 22 => 70 | 23 => 82 | 3 => 3 | 4 => 4 | 0 => 0 | n => n, fun | n => n⟩
theorem Try.revTurn : Go.Proofs.SlLaysE0.n35 Try.prog Try.revTurn_ren := {
  mixed := by kernel_rfl
  f35 := ⟨Try.f63.name, by decide, Try.func63.trans (congrArg some (by kernel_rfl))⟩
  t0 := Try.underlying0
  a0 := Try.isAgg0
  z0 := Try.sizeOf0
  v0 := Try.zeroValue0
  t3 := Try.underlying3
  a3 := Try.isAgg3
  z3 := Try.sizeOf3
  v3 := Try.zeroValue3
  t4 := Try.underlying4
  a4 := Try.isAgg4
  z4 := Try.sizeOf4
  v4 := Try.zeroValue4
  t22 := Try.underlying70
  a22 := Try.isAgg70
  z22 := Try.sizeOf70
  v22 := Try.zeroValue70 }


/-- A turn's cells. -/
def turnC (t : Mth.Turn) : List Value := [.bool t.left, .int .i64 (t.lo : Int), .int .i64 (t.hi : Int)]
def turnV (t : Mth.Turn) : Value := .agg #[.bool t.left, .int .i64 (t.lo : Int), .int .i64 (t.hi : Int)]
def turnsC (ts : List Mth.Turn) : List Value := ts.flatMap turnC

theorem turnsC_length (ts : List Mth.Turn) : (turnsC ts).length = ts.length * 3 := by
  induction ts with
  | nil => rfl
  | cons t ts ih =>
    have e : turnsC (t :: ts) = turnC t ++ turnsC ts := rfl
    rw [e, List.length_append, ih, List.length_cons]
    show 3 + _ = _
    omega

theorem turnsC_snoc (ts : List Mth.Turn) (t : Mth.Turn) : turnsC (ts ++ [t]) = turnsC ts ++ turnC t := by simp [turnsC]

theorem turnC_one (t : Mth.Turn) : ∀ u ∈ turnC t, u.oneCell' = true := by
  intro u hu
  simp [turnC] at hu
  rcases hu with rfl | rfl | rfl <;> rfl

instance turnIn : Inhabited Mth.Turn := ⟨⟨false, 0, 0⟩⟩

theorem turnsC_at : ∀ (ts : List Mth.Turn) (k : Nat) (t : Mth.Turn) (_ : ts[k]? = some t) (j : Nat) (_ : j < 3), (turnsC ts)[k * 3 + j]? = (turnC t)[j]?
  | [], k, t, h, j, hj => by simp at h
  | s :: ts, 0, t, h, j, hj => by
    obtain rfl : s = t := by simpa using h
    have e : turnsC (s :: ts) = turnC s ++ turnsC ts := rfl
    rw [e, List.getElem?_append_left (by show 0 * 3 + j < 3; omega), Nat.zero_mul, Nat.zero_add]
  | s :: ts, k + 1, t, h, j, hj => by
    have ih := turnsC_at ts k t (by simpa using h) j hj
    have e : turnsC (s :: ts) = turnC s ++ turnsC ts := rfl
    have e2 : (k + 1) * 3 + j - (turnC s).length = k * 3 + j := by show (k + 1) * 3 + j - 3 = _; omega
    rw [e, List.getElem?_append_right (by show 3 ≤ _; omega), e2, ih]

theorem turns_flat (ts : List Mth.Turn) : Go.Sort.flatK turnC 3 ts.toArray = (turnsC ts).toArray := by
  apply Array.ext_getElem?
  intro t
  by_cases h : t < ts.length * 3
  · have hs : t < (Go.Sort.flatK turnC 3 ts.toArray).size := by rw [Go.Sort.size_flatK]; simpa using h
    have h1 := Go.Sort.get_flatK turnC 3 ts.toArray t (by simpa using h)
    have hk : t / 3 < ts.length := by omega
    have hx : ts[t / 3]? = some (ts[t / 3]'hk) := List.getElem?_eq_getElem hk
    have h2 := turnsC_at ts (t / 3) _ hx (t % 3) (by omega)
    have e : t / 3 * 3 + t % 3 = t := by omega
    rw [e] at h2
    rw [show (turnsC ts).toArray[t]? = (turnsC ts)[t]? from List.getElem?_toArray, h2, Array.getElem?_eq_getElem hs]
    rw [getElem!_pos _ t hs] at h1
    rw [h1]
    have e3 : ts.toArray[t / 3]! = ts[t / 3]'hk := by
      rw [getElem!_pos _ (t / 3) (by simpa using hk)]
      rfl
    rw [e3]
    have h3 : t % 3 < (turnC (ts[t / 3]'hk)).length := by show t % 3 < 3; omega
    rw [getElem!_pos (turnC (ts[t / 3]'hk)) (t % 3) h3, List.getElem?_eq_getElem h3]
  · rw [Array.getElem?_eq_none (by rw [Go.Sort.size_flatK]; simpa using h), show (turnsC ts).toArray[t]? = (turnsC ts)[t]? from List.getElem?_toArray, List.getElem?_eq_none (by rw [turnsC_length]; omega)]

theorem row_put {w : World} {B n c sz g : Nat} {e : TypeId} {xs ys : List Value} (h : w.ownsRow B e sz (.slice (some ⟨g, 0, none⟩) n c) n xs) (hl : ys.length = xs.length) :
    (w.setCells g 0 ys).ownsRow B e sz (.slice (some ⟨g, 0, none⟩) n c) n ys := by
  obtain ⟨h1, h2⟩ := h
  refine ⟨hl.trans h1, .inr ?_⟩
  rcases h2 with ⟨he, _⟩ | ⟨g', cap, cur, he, hB, hg, hn, hm, hs, ht⟩
  · cases he
  · injection he with ha _ hc
    injection ha with ha
    injection ha with hga
    subst hga hc
    have hH : Holds w g e cur.toList := hg
    have hcl : xs.length ≤ cur.toList.length := by
      rw [← ht]
      exact List.length_take_le' ..
    have hp := hH.put 0 ys (by omega)
    refine ⟨g, c, (put cur.toList 0 ys).toArray, rfl, hB, hp, hn, hm, ?_, ?_⟩
    · rw [List.size_toArray, put_length _ _ _ (by omega)]
      exact hs
    · rw [← h1, ← hl]
      show List.take ys.length (put cur.toList 0 ys) = ys
      simp [put]

set_option maxRecDepth 100000 in
theorem rev_any (A : Option Addr) (n c : Nat) (ts : List Mth.Turn) (B : Nat) (w : World) (h : w.ownsRow B 82 3 (.slice A n c) n (turnsC ts)) (hn : ts.length = n) (hm : n ≤ 1000000000) :
    Calls Try.prog 63 #[.slice A n c] w fun e w' => e = .returned (.tuple #[]) ∧ w'.ownsRow B 82 3 (.slice A n c) n (turnsC ts.reverse) ∧ w.grownBy w' (Value.slice A n c).ownBlock := by
  have h0 := h
  obtain ⟨h1, h2⟩ := h
  rcases h2 with ⟨he, hn0⟩ | ⟨g, cap, cur, he, hB, hg, hnc, hmx, hs, ht⟩
  · injection he with ha _ hc
    subst ha hc hn0
    obtain rfl : ts = [] := List.length_eq_zero_iff.1 hn
    exact (AnyQ.slices_Reverse_empty Try.revTurn none 0 w).mono fun e w' ⟨he, hw⟩ => ⟨he, by rw [hw]; exact h0, by rw [hw]; exact only_of_below (Below.refl _ _) none⟩
  · injection he with ha _ hc
    subst ha hc hn
    have hH : Holds w g 82 cur.toList := hg
    have hK : Go.Sort.HoldsK turnC 3 w g 0 ts.toArray := by
      unfold Go.Sort.HoldsK
      rw [turns_flat]
      intro j hj
      have hj' : j < (turnsC ts).length := by simpa using hj
      refine ⟨?_, by rw [Nat.zero_add]; exact hH.frozen j⟩
      rw [Nat.zero_add, hH.cell j, getElem!_pos _ j hj]
      have : (cur.toList.take (ts.length * 3))[j]? = (turnsC ts)[j]? := by rw [ht]
      rw [List.getElem?_take_of_lt (by rw [turnsC_length] at hj'; exact hj')] at this
      rw [this, List.getElem?_eq_getElem hj']
      rfl
    refine (AnyQ.slices_Reverse Try.revTurn 3 Try.isAgg82 Try.sizeOf82 turnC (fun _ => rfl) turnC_one g 0 c ts.toArray w hK (by simp; omega)).mono ?_
    rintro e w' ⟨rfl, q, rfl⟩
    have e1 : Go.Sort.putRowK turnC 3 (Go.Sort.ahead w q) g 0 ts.toArray.reverse = (w.drewN q).setCells g 0 (turnsC ts.reverse) := by
      unfold Go.Sort.putRowK
      have e2 : ts.toArray.reverse = ts.reverse.toArray := by simp
      rw [e2, turns_flat]
      have hh : Go.Sort.Holds id w g 0 (turnsC ts).toArray := by
        have := hK
        unfold Go.Sort.HoldsK at this
        rw [turns_flat] at this
        exact this
      have := Go.Lib.putRow_eq_setCells id w g 0 (turnsC ts).toArray (turnsC ts.reverse) q hh (by simp [turnsC_length])
      rw [List.map_id] at this
      exact this
    rw [e1]
    refine ⟨rfl, row_put (xs := turnsC ts) ?_ (by rw [turnsC_length, turnsC_length, List.length_reverse]), only_setCells (only_drewN (only_of_below (Below.refl _ _) _) q) 0 _⟩
    exact h0

end Go.Proofs.Ytenfhmpjhbpkpaa
namespace Go.Proofs.Ytenfhmpjhbpkpaa
open Go.RowKit
open Go.Lib (strCells strCells_length strCells_oneCell)
attribute [local irreducible] Sha.compress Sha.blocks Sha.sha Sha.pad

theorem Try.infoSpan : (Try.prog.info? 72).map (·.size) = some 2 := by kernel_rfl
theorem Try.infoTurn : (Try.prog.info? 82).map (fun i => (i.zero, i.size, i.bytes)) = some (some (.agg #[.bool false, .int .i64 0, .int .i64 0]), 3, 24) := by kernel_rfl

/-- A span's cells. -/
def spanC (lo hi : Nat) : List Value := [.int .i64 (lo : Int), .int .i64 (hi : Int)]
def spanV (lo hi : Nat) : Value := .agg #[.int .i64 (lo : Int), .int .i64 (hi : Int)]

theorem isLeaf_any (lo hi : Nat) (h1 : lo ≤ hi) (h2 : hi ≤ 1000) (w : World) : Calls Try.prog 49 #[spanV lo hi] w fun e w' => e = .returned (.bool (decide (hi - lo = 1))) ∧ Below w.heap.size w w' := by
  unfold spanV
  have hs := IntWalk.i64_in ((hi : Int) - (lo : Int)) (by omega)
  have he : ((hi : Int) - (lo : Int) == 1) = decide (hi - lo = 1) := by
    rw [Bool.eq_iff_iff]
    simp
    omega
  have he' := hid he
  clear he
  go_enter Try.func49, Try.ntmps49
  go_wp2
  go_ret
  exact ⟨by rw [he'.out]; rfl, (Below.refl _ _).alloc (Nat.le_refl _) _⟩

theorem endsAt1_any (m lo hi : Nat) (B : Nat) (w : World) (hc : w.cell? ⟨B, 0, none⟩ = some (.int .i64 (m : Int))) : Calls Try.prog 65 #[spanV lo hi, .pointer (some ⟨B, 0, none⟩)] w fun e w' => e = .returned (.bool (decide (hi = m))) ∧ Below w.heap.size w w' := by
  unfold spanV
  have he : ((hi : Int) == (m : Int)) = decide (hi = m) := by
    rw [Bool.eq_iff_iff]
    simp
    omega
  have he' := hid he
  have hB : B < w.heap.size := World.block_lt_of_cell? w ⟨B, 0, none⟩ hc
  clear he
  go_enter Try.func65, Try.ntmps65
  go_wp2
  go_ret
  exact ⟨by rw [he'.out]; rfl, (Below.refl _ _).alloc (Nat.le_refl _) _⟩

theorem endsAt_any (m : Nat) (w : World) : Calls Try.prog 55 #[.int .i64 (m : Int)] w fun e w' => e = .returned (.func (.func 65) #[] #[.pointer (some ⟨w.heap.size, 0, none⟩)]) ∧ w' = w.alloc (.cells #[.int .i64 (m : Int)] 3) := by
  go_enter Try.func55, Try.ntmps55
  go_wp2
  go_ret
  exact ⟨rfl, rfl⟩

set_option maxRecDepth 100000 in
theorem firstHalf_any (n : Nat) (hn : 2 ≤ n) (hn2 : n ≤ 1000000000000000000) (w : World) : Calls Try.prog 62 #[.int .i64 (n : Int)] w fun e w' => e = .returned (.int .i64 (Mth.cut n : Int)) ∧ Below w.heap.size w w' := by
  have hpl : ∀ k : Nat, 1 ≤ k → 1 ≤ 2 * k := fun k h => by omega
  have h0 : n ≤ 1 * 2 ^ n := by rw [Nat.one_mul]; exact Nat.le_of_lt (Mth.lt_pow n)
  have h0' := hid h0
  clear h0
  go_enter Try.func62, Try.ntmps62
  go_wp2_with fail
  go_loopw [3] (fun v wr => ∃ k f : Nat, 1 ≤ k ∧ k < n ∧ n ≤ k * 2 ^ f ∧ v = .int .i64 (k : Int) ∧ Mth.cutFrom f k n = Mth.cut n ∧ Below w.heap.size w wr) (fun v _ => n - (intOf v).toNat)
  case atStart => exact ⟨1, n, Nat.le_refl _, by omega, h0'.out, rfl, rfl, Below.refl _ _⟩
  case round =>
    obtain ⟨k, f, hk, hkn, hf, rfl, hc, hB⟩ := hrel
    have hw := IntWalk.i64_in (2 * (k : Int)) (by omega)
    have hw2 := IntWalk.i64_in ((k : Int) * 2) (by omega)
    have hB' := hid hB
    have hc' := hid hc
    have hf' := hid hf
    clear hB hc hf
    by_cases hlt : 2 * k < n
    · have hlt' : 2 * (k : Int) < (n : Int) := by omega
      go_wp2_with fail
      go_roundw
      case rel =>
        obtain ⟨f', rfl⟩ : ∃ f', f = f' + 1 := ⟨f - 1, by have := hf'.out; cases f with | zero => (simp at this; omega) | succ f => rfl⟩
        have hc := hc'.out
        rw [cut_pow, if_pos hlt] at hc
        have hf := hf'.out
        rw [Nat.pow_succ] at hf
        refine ⟨2 * k, f', by omega, hlt, ?_, by go_num, hc, hB'.out⟩
        have e : 2 * k * 2 ^ f' = k * (2 ^ f' * 2) := by rw [Nat.mul_comm 2 k, Nat.mul_assoc, Nat.mul_comm 2]
        rw [e]
        exact hf
      case measure => simp [intOf]; omega
    · have hlt' : ¬ 2 * (k : Int) < (n : Int) := by omega
      go_wp2_with fail
      go_ret
      have hc := hc'.out
      have : Mth.cutFrom f k n = k := by
        cases f with
        | zero => rfl
        | succ f => rw [cut_pow, if_neg hlt]
      rw [this] at hc
      exact ⟨by rw [← hc]; rfl, hB'.out⟩

/-- A question about spans. -/
def Asks (g : Nat) (lb : Array Value) (stop : Nat → Nat → Bool) (w : World) : Prop :=
  ∀ W lo hi, Below w.heap.size w W → lo ≤ hi → hi ≤ 1000 → Calls Try.prog g (#[spanV lo hi] ++ lb) W fun e w' => e = .returned (.bool (stop lo hi)) ∧ Below W.heap.size W w'

/-- What lies where on the way down. -/
structure DownAt (w wr : World) (A : Option Addr) (c : Nat) (ts : List Mth.Turn) (lo hi : Nat) : Prop where
  res : Holds wr w.heap.size 72 (spanC 0 0)
  at_ : Holds wr (w.heap.size + 1) 72 (spanC lo hi)
  row : wr.ownsRow (w.heap.size + 2) 82 3 (.slice A ts.length c) ts.length (turnsC ts)
  b : Below w.heap.size w wr

theorem At.of_holds {w : World} {g B sz n : Nat} {t : TypeId} {cs : List Value} (h : Holds w g t cs) (hl : cs.length = n * sz) (hB : g < B) : At w B sz (some ⟨g, 0, none⟩) n cs := by
  refine ⟨hl, .inr ⟨_, rfl, hB, fun j hj => ?_⟩⟩
  have e0 : (⟨g, 0, none⟩ : Addr).add j = ⟨g, j, none⟩ := by
    unfold Addr.add
    by_cases h0 : j = 0 <;> simp [h0]
  rw [e0, h.cell j, List.getElem?_eq_getElem hj]

theorem row_below {w w' : World} {B n size : Nat} {e : TypeId} {v : Value} {xs : List Value} (h : w.ownsRow B e size v n xs) (hb : Below w.heap.size w w') : w'.ownsRow B e size v n xs :=
  row_of_blocks h fun k hk => hb.block k (h.lt k hk).2

theorem span_put {w W : World} {g : Nat} {a b : Nat} {x y : Value} (h : Holds w g 72 (spanC a b)) (e : w.setCells g 0 [x, y] = W) : Holds W g 72 [x, y] := by
  subst e
  have h1 := h.put 0 [x, y] (Nat.le_refl 2)
  rw [put_all (spanC a b) [x, y] rfl] at h1
  exact h1

theorem holds_far {w W : World} {g b o : Nat} {t : TypeId} {cs vs : List Value} (h : Holds w g t cs) (hg : g ≠ b) (e : w.setCells b o vs = W) : Holds W g t cs := by
  subst e
  exact h.fars b o vs hg

theorem row_far {w W : World} {B n size b o : Nat} {e : TypeId} {v : Value} {xs vs : List Value} (h : w.ownsRow B e size v n xs) (hne : v.ownBlock ≠ some b) (he : w.setCells b o vs = W) : W.ownsRow B e size v n xs := by
  subst he
  exact row_of_blocks h fun k hk => cells_far _ _ _ _ _ fun h => hne (by rw [hk, h])

theorem below_put {a w W : World} {B b o : Nat} {vs : List Value} (h : Below B a w) (hb : B ≤ b) (e : w.setCells b o vs = W) : Below B a W := by
  subst e
  exact below_setCells h b o vs hb

theorem DownAt.next {w W7 W8 : World} {A7 : Option Addr} {c7 n lo hi a b : Nat} {ts : List Mth.Turn} {cells : List Value} {x y : Int} (hres : Holds W7 w.heap.size 72 (spanC 0 0)) (hat : Holds W7 (w.heap.size + 1) 72 (spanC a b))
    (hrow : W7.ownsRow (w.heap.size + 2) 82 3 (.slice A7 n c7) n cells) (hn : n = ts.length) (hc : cells = turnsC ts) (hb : Below w.heap.size w W7) (hx : x = (lo : Int)) (hy : y = (hi : Int)) (e : W7.setCells (w.heap.size + 1) 0 [.int .i64 x, .int .i64 y] = W8) :
    DownAt w W8 A7 c7 ts lo hi := by
  subst hn hc hx hy
  refine ⟨holds_far hres (Nat.ne_of_lt (Nat.lt_succ_self _)) e, span_put hat e, row_far hrow (fun h => ?_) e, below_put hb (Nat.le_succ _) e⟩
  have := (hrow.lt _ h).1
  omega

theorem results_tc {P : Program} {fn : Func} {p q : Tmp} {ty : TypeId} (h : fn.results = #[.tmp q, .cell p ty]) (tmps : Array Value) (w : World) (g : Nat) (t : TypeId) (cs : Array Value) (fr : Nat × Nat) (d : TypeDesc)
    (hp : tmps.getD p undef = .pointer (some ⟨g, 0, none⟩)) (hg : w.heap[g]? = some (.cells cs t fr)) (v : Value) (hq : tmps.getD q undef = v)
    (hu : P.underlying ty = some d) (hd : (match d with | .struct _ | .array _ _ => true | _ => false) = true) (hi : (P.info? ty).map (·.size) = some cs.size) :
    (results fn tmps).run P w = .ok (.tuple #[v, .agg cs]) w := by
  have hp' : tmps[p]?.getD undef = .pointer (some ⟨g, 0, none⟩) := by simpa using hp
  have hq' : tmps[q]?.getD undef = v := by simpa using hq
  simp [results, h, hp', hq', asAddr, run_loadVar_row w g t ty cs fr d hg hu hd hi]

set_option maxRecDepth 100000 in
set_option maxHeartbeats 2000000 in
theorem down_any (m size : Nat) (g : Nat) (lb : Array Value) (stop : Nat → Nat → Bool) (w : World) (h1 : 1 ≤ m) (h2 : m ≤ size) (h3 : size ≤ 1000) (he : ∀ args w, (callFunc g args).run Try.prog w = .ok (.enter g args) w) (hq : Asks g lb stop w)
    (hst : ∀ lo hi, lo < m → m ≤ hi → stop lo hi = false → 2 ≤ hi - lo) :
    Calls Try.prog 48 #[.int .i64 (m : Int), .int .i64 (size : Int), .func (.func g) #[] lb] w fun e w' => ∃ A c, e = .returned (.tuple #[.slice A (Mth.way stop size m 0 size).1.length c, spanV (Mth.way stop size m 0 size).2.1 (Mth.way stop size m 0 size).2.2]) ∧
      At w' w'.heap.size 3 A (Mth.way stop size m 0 size).1.length (turnsC (Mth.way stop size m 0 size).1) ∧ Below w.heap.size w w' := by
  have hst' := hid hst
  clear hst
  obtain ⟨W, hW⟩ : ∃ W, Mth.way stop size m 0 size = W := ⟨_, rfl⟩
  rw [hW]
  have hW' := hid hW
  clear hW
  have hq' := hid hq
  clear hq
  obtain ⟨i0, hi0, hz0, hz1, hz2⟩ := info_parts Try.infoTurn
  go_enter Try.func48, Try.ntmps48
  go_wp2_with fail
  have hD0 : DownAt w ((w.alloc (.cells #[.int .i64 0, .int .i64 0] 72)).alloc (.cells #[.int .i64 0, .int .i64 (size : Int)] 72)) none 0 [] 0 size := by
    refine ⟨(Holds.new w _ _).alloc _, ?_, World.ownsRow_nil _ _ _ _, ((Below.refl _ _).alloc (Nat.le_refl _) _).alloc (by simp) _⟩
    have h := Holds.new (w.alloc (.cells #[.int .i64 0, .int .i64 0] 72)) 72 #[.int .i64 0, .int .i64 (size : Int)]
    rw [alloc_size] at h
    exact h
  have hD0' := hid hD0
  clear hD0
  go_loopg [8] size (fun f v wr => ∃ (ts : List Mth.Turn) (lo hi : Nat) (A : Option Addr) (c : Nat), v = .slice A ts.length c ∧ lo < m ∧ m ≤ hi ∧ hi ≤ size ∧ hi - lo ≤ f + 1 ∧ ts.length + f ≤ size ∧ W.1 = (Mth.way stop f m lo hi).1 ++ ts.reverse ∧ W.2 = (Mth.way stop f m lo hi).2 ∧ DownAt w wr A c ts lo hi)
  case atStart => exact ⟨[], 0, size, none, 0, rfl, h1, h2, Nat.le_refl _, by omega, by simp, by rw [← hW'.out]; simp, by rw [← hW'.out], hD0'.out⟩
  case round =>
    obtain ⟨ts, lo, hi, A, c, rfl, hlo, hhi, hhs, hf, htl, hW1, hW2, hD⟩ := hrel
    clear hD0'
    have hW1' := hid hW1
    have hW2' := hid hW2
    have hD' := hid hD
    clear hW1 hW2 hD
    have c0 : wr.cell? ⟨w.heap.size + 1, 0, none⟩ = some (.int .i64 (lo : Int)) := hD'.out.at_.cell 0
    have c1 : wr.cell? ⟨w.heap.size + 1, 1, none⟩ = some (.int .i64 (hi : Int)) := hD'.out.at_.cell 1
    have hs' := hid (hq'.out wr lo hi hD'.out.b (by omega) (by omega))
    unfold spanV at hs'
    go_wp2_with fail
    refine hs'.out.mono ?_
    rintro e W1 ⟨rfl, hb1⟩
    -- HERE
    have hsz1 := hb1.size
    have hH1 := hid (hD'.out.at_.below hb1 hD'.out.at_.lt)
    have hres1 := hid (hD'.out.res.below hb1 hD'.out.res.lt)
    have hrow1 := hid (row_below hD'.out.row hb1)
    have hB1 := hid (below_up hb1 hD'.out.b)
    clear hb1
    have d0 : W1.cell? ⟨w.heap.size + 1, 0, none⟩ = some (.int .i64 (lo : Int)) := hH1.out.cell 0
    have d1 : W1.cell? ⟨w.heap.size + 1, 1, none⟩ = some (.int .i64 (hi : Int)) := hH1.out.cell 1
    by_cases hstop : stop lo hi = true
    · rw [hstop]
      have htl' : ts.length ≤ 1000000000 := by omega
      have hrv := hid (rev_any A ts.length c ts _ W1 hrow1.out rfl htl')
      have hw0 : Mth.way stop gk m lo hi = ([], (lo, hi)) := by
        cases gk with
        | zero => rfl
        | succ f => simp only [Mth.way, hstop, if_true]
      have hV : W = (ts.reverse, (lo, hi)) := by
        refine Prod.ext ?_ ?_
        · rw [hW1'.out, hw0]
          rfl
        · rw [hW2'.out, hw0]
      have hV' := hid hV
      have hne1 := hid (fun q (h : (Value.slice A ts.length c).ownBlock = some q) => (hrow1.out.lt q h).1)
      clear hw0 hV hs' c0 c1 d0 d1
      go_wp2_with fail
      refine hrv.out.mono ?_
      rintro e W2 ⟨rfl, hrow2, hg2⟩
      have hH2 := hid (hH1.out.grown hg2 (fun e => by have := hne1.out _ e.symm; omega))
      have hres2 := hid (hres1.out.grown hg2 (fun e => by have := hne1.out _ e.symm; omega))
      have hB2 := hid (hB1.out.grown hg2 hB1.out.size (fun k e => by have := hne1.out _ e; omega))
      have hrow2' := hid hrow2
      clear hrow2 hg2
      have hdr : Below W2.heap.size W2 W2.drew := (Below.refl _ _).drew
      have hHd := hid hH2.out.drew
      have hres3 := hid hres2.out.drew
      have hB3 := hid (below_up hdr hB2.out)
      have hrow3 := hid (row_below hrow2'.out hdr)
      clear hdr hH2 hres2 hB2 hrow2'
      go_wp2_with fail
      refine wp_region_held_drew (S := fun W => Holds W (w.heap.size + 1) 72 (spanC lo hi)) (by kernel_rfl) (by exact hHd.out) (fun hHeld => ?_)
      generalize W2.drew = Wd at *
      refine wpAnyH_take (i := 0) (v := .slice A ts.length c) rfl (by kernel_rfl) (by kernel_rfl) (by kernel_rfl) (fun _ _ _ h => h) (yieldsIf_move _ rfl rfl rfl) hHeld ?_
      simp only [ly1, ly2, ly3, Act.put, ly5, ly6, ly7]
      refine wpAnyH_take (i := 1) (v := .agg (spanC lo hi).toArray) rfl (by kernel_rfl) (by kernel_rfl) (by kernel_rfl) (fun _ _ _ h => h) (yieldsIf_load_mid (by kernel_rfl) _ _ rfl _ _ rfl _ _ (fun W h => h_all h) Try.underlying72 rfl (by exact Try.infoSpan)) hHeld ?_
      simp only [ly1, ly2, ly3, Act.put, ly5, ly6, ly7]
      refine wpAnyH_take (i := 2) (v := .slice A ts.length c) rfl (by kernel_rfl) (by kernel_rfl) (by kernel_rfl) (fun _ _ _ h => h) (yieldsIf_assign _ rfl rfl rfl) hHeld ?_
      simp only [ly1, ly2, ly3, Act.put, ly5, ly6, ly7]
      refine wpAnyH_ready (rs := [3]) (by kernel_rfl) (by simp) (AllReadyH.cons rfl (fun K hK => ?_) AllReadyH.nil)
      have hK' := hid hK
      clear hK
      rw [if_pos (by kernel_rfl)]
      simp only [ly1, ly2, ly3]
      refine wp_store_mid _ _ _ rfl w.heap.size 0 (spanC lo hi).toArray rfl rfl (by exact hres3.out.there 0 2 (Nat.le_refl 2)) (by exact Try.infoSpan) (by kernel_rfl) ?_
      generalize hW5 : World.setCells _ _ _ _ = W5
      have hres5 := hid (span_put hres3.out hW5)
      have hB5 := hid (below_put hB3.out (Nat.le_refl _) hW5)
      have hH5 := hid (holds_far hHd.out (by omega) hW5)
      have hrow5 := hid (row_far hrow3.out (fun h => by have := hne1.out _ h; omega) hW5)
      clear hW5
      refine hK'.out _ _ (by exact hH5.out) (fun hHeld => ?_)
      clear hK' K
      refine wpAnyH_done (by kernel_rfl) ?_ _
      go_wp2_with fail
      have hv := hV'.out
      subst hv
      refine bodyPost_ret (results_tc rfl _ _ w.heap.size 72 (spanC lo hi).toArray (0, 0) _ rfl (by exact hres5.out) (.slice A ts.length c) rfl Try.underlying72 rfl (by exact Try.infoSpan)) rfl ⟨A, c, ?_, ?_, hB5.out⟩
      · rw [List.length_reverse]
        rfl
      · rw [List.length_reverse]
        exact At.of_own hrow5.out
    · have hstop' : stop lo hi = false := by simpa using hstop
      rw [hstop']
      obtain ⟨f, rfl⟩ : ∃ f, gk = f + 1 := ⟨gk - 1, by have := hst'.out lo hi hlo hhi hstop'; omega⟩
      have h2c := hst'.out lo hi hlo hhi hstop'
      obtain ⟨k1, k2, -, -⟩ := Mth.cut_spec (hi - lo) h2c
      have hfh := hid (fun W => firstHalf_any (hi - lo) h2c (by omega) W)
      have hWy : Mth.way stop (f + 1) m lo hi = if m ≤ lo + Mth.cut (hi - lo) then
          ((Mth.way stop f m lo (lo + Mth.cut (hi - lo))).1 ++ [⟨true, lo + Mth.cut (hi - lo), hi⟩], (Mth.way stop f m lo (lo + Mth.cut (hi - lo))).2)
        else ((Mth.way stop f m (lo + Mth.cut (hi - lo)) hi).1 ++ [⟨false, lo, lo + Mth.cut (hi - lo)⟩], (Mth.way stop f m (lo + Mth.cut (hi - lo)) hi).2) := by
        simp only [Mth.way, hstop', Bool.false_eq_true, if_false]
      have hWy' := hid hWy
      have es : ((hi - lo : Nat) : Int) = (hi : Int) - (lo : Int) := by omega
      rw [es] at hfh
      generalize Mth.cut (hi - lo) = k at *
      have s1 := IntWalk.i64_in ((hi : Int) - (lo : Int)) (by omega)
      have s2 := IntWalk.i64_in ((lo : Int) + (k : Int)) (by omega)
      clear hWy es h2c hs' hst' c0 c1
      have hHd := hid hH1.out.drew
      go_wp2_with fail
      refine wp_region_held_drew (S := fun W => Holds W (w.heap.size + 1) 72 (spanC lo hi)) (by kernel_rfl) (by exact hHd.out) (fun hHeld => ?_)
      refine wpAnyH_take (i := 0) (v := .pointer (some ⟨w.heap.size + 1, 0, none⟩)) rfl (by kernel_rfl) (by kernel_rfl) (by kernel_rfl) (fun _ _ _ h => h) (.inl ⟨by kernel_rfl, fun w _ => by go_simp⟩) hHeld ?_
      simp only [ly1, ly2, ly3, Act.put, ly5, ly6, ly7]
      refine wpAnyH_take (i := 1) (v := .int .i64 (lo : Int)) rfl (by kernel_rfl) (by kernel_rfl) (by kernel_rfl) (fun _ _ _ h => h) (.inl ⟨by kernel_rfl, fun W hS => by have hc : W.cell? ⟨w.heap.size + 1, 0, none⟩ = some (.int .i64 (lo : Int)) := hS.cell 0; go_simp⟩) hHeld ?_
      simp only [ly1, ly2, ly3, Act.put, ly5, ly6, ly7]
      refine wpAnyH_take (i := 2) (v := .pointer (some ⟨w.heap.size + 1, 1, none⟩)) rfl (by kernel_rfl) (by kernel_rfl) (by kernel_rfl) (fun _ _ _ h => h) (.inl ⟨by kernel_rfl, fun w _ => by go_simp⟩) hHeld ?_
      simp only [ly1, ly2, ly3, Act.put, ly5, ly6, ly7]
      refine wpAnyH_take (i := 3) (v := .int .i64 (hi : Int)) rfl (by kernel_rfl) (by kernel_rfl) (by kernel_rfl) (fun _ _ _ h => h) (.inl ⟨by kernel_rfl, fun W hS => by have hc : W.cell? ⟨w.heap.size + 1, 1, none⟩ = some (.int .i64 (hi : Int)) := hS.cell 1; go_simp⟩) hHeld ?_
      simp only [ly1, ly2, ly3, Act.put, ly5, ly6, ly7]
      refine wpAnyH_take (i := 4) (v := .pointer (some ⟨w.heap.size + 1, 0, none⟩)) rfl (by kernel_rfl) (by kernel_rfl) (by kernel_rfl) (fun _ _ _ h => h) (.inl ⟨by kernel_rfl, fun w _ => by go_simp⟩) hHeld ?_
      simp only [ly1, ly2, ly3, Act.put, ly5, ly6, ly7]
      refine wpAnyH_take (i := 5) (v := .int .i64 (lo : Int)) rfl (by kernel_rfl) (by kernel_rfl) (by kernel_rfl) (fun _ _ _ h => h) (.inl ⟨by kernel_rfl, fun W hS => by have hc : W.cell? ⟨w.heap.size + 1, 0, none⟩ = some (.int .i64 (lo : Int)) := hS.cell 0; go_simp⟩) hHeld ?_
      simp only [ly1, ly2, ly3, Act.put, ly5, ly6, ly7]
      refine wpAnyH_take (i := 6) (v := .int .i64 ((hi : Int) - (lo : Int))) rfl (by kernel_rfl) (by kernel_rfl) (by kernel_rfl) (fun _ _ _ h => h) (.inl ⟨by kernel_rfl, fun w _ => by go_simp⟩) hHeld ?_
      simp only [ly1, ly2, ly3, Act.put, ly5, ly6, ly7]
      refine wpAnyH_ready (rs := [7]) (by kernel_rfl) (by simp) (AllReadyH.cons rfl (fun K hK => ?_) AllReadyH.nil)
      have hK' := hid hK
      clear hK
      rw [if_pos (by kernel_rfl)]
      simp only [ly1, ly2, ly3]
      go_simp
      refine (hfh.out _).mono ?_
      rintro e W2 ⟨rfl, hb2⟩
      have hH2 := hid (hHd.out.below hb2 hHd.out.lt)
      have hdr : Below W1.heap.size W1 W1.drew := (Below.refl _ _).drew
      have hres2 := hid ((hres1.out.drew).below hb2 hres1.out.drew.lt)
      have hrow2 := hid (row_below (row_below hrow1.out hdr) hb2)
      have hB2 := hid (below_up hb2 (below_up hdr hB1.out))
      have hsz2 : W1.heap.size ≤ W2.heap.size := hb2.size
      clear hb2 hdr hres1 hrow1 hB1 hH1 d0 d1 hHd
      refine hK'.out _ _ (by exact hH2.out) (fun hHeld => ?_)
      clear hK' K
      refine wpAnyH_take (i := 8) (v := .int .i64 ((lo : Int) + (k : Int))) rfl (by kernel_rfl) (by kernel_rfl) (by kernel_rfl) (fun _ _ _ h => h) (.inl ⟨by kernel_rfl, fun w _ => by go_simp⟩) hHeld ?_
      simp only [ly1, ly2, ly3, Act.put, ly5, ly6, ly7]
      refine wpAnyH_take (i := 9) (v := .int .i64 ((lo : Int) + (k : Int))) rfl (by kernel_rfl) (by kernel_rfl) (by kernel_rfl) (fun _ _ _ h => h) (yieldsIf_assign _ rfl rfl rfl) hHeld ?_
      simp only [ly1, ly2, ly3, Act.put, ly5, ly6, ly7]
      refine wpAnyH_done (by kernel_rfl) ?_ _
      have hHd := hid hH2.out.drew
      have hdr2 : Below W2.heap.size W2 W2.drew := (Below.refl _ _).drew
      have hres3 := hid hres2.out.drew
      have hrow3 := hid (row_below hrow2.out hdr2)
      have hB3 := hid (below_up hdr2 hB2.out)
      have hrl := hid (fun q (h : (Value.slice A ts.length c).ownBlock = some q) => (hrow2.out.lt q h).2)
      have hwz : w.heap.size + 2 ≤ W2.heap.size := by have := hH2.out.lt; omega
      have hwd := hid (show W2.drew.heap.size = W2.heap.size from rfl)
      clear hdr2 hres2 hrow2 hB2 hH2
      go_wp2_with fail
      refine wp_region_held_drew (S := fun W => Holds W (w.heap.size + 1) 72 (spanC lo hi)) (by kernel_rfl) (by exact hHd.out) (fun hHeld => ?_)
      generalize W2.drew = Wd at *
      refine wpAnyH_take (i := 0) (v := .pointer (some ⟨w.heap.size + 1, 0, none⟩)) rfl (by kernel_rfl) (by kernel_rfl) (by kernel_rfl) (fun _ _ _ h => h) (.inl ⟨by kernel_rfl, fun w _ => by go_simp⟩) hHeld ?_
      simp only [ly1, ly2, ly3, Act.put, ly5, ly6, ly7]
      refine wpAnyH_take (i := 1) (v := .int .i64 (lo : Int)) rfl (by kernel_rfl) (by kernel_rfl) (by kernel_rfl) (fun _ _ _ h => h) (.inl ⟨by kernel_rfl, fun W hS => by have hc : W.cell? ⟨w.heap.size + 1, 0, none⟩ = some (.int .i64 (lo : Int)) := hS.cell 0; go_simp⟩) hHeld ?_
      simp only [ly1, ly2, ly3, Act.put, ly5, ly6, ly7]
      refine wpAnyH_take (i := 2) (v := .int .i64 ((lo : Int) + (k : Int))) rfl (by kernel_rfl) (by kernel_rfl) (by kernel_rfl) (fun _ _ _ h => h) (yieldsIf_move _ rfl rfl rfl) hHeld ?_
      simp only [ly1, ly2, ly3, Act.put, ly5, ly6, ly7]
      refine wpAnyH_take (i := 3) (v := .agg #[.int .i64 (lo : Int), .int .i64 ((lo : Int) + (k : Int))]) rfl (by kernel_rfl) (by kernel_rfl) (by kernel_rfl) (fun _ _ _ h => h) (.inl ⟨by kernel_rfl, fun w _ => by go_simp⟩) hHeld ?_
      simp only [ly1, ly2, ly3, Act.put, ly5, ly6, ly7]
      refine wpAnyH_take (i := 4) (v := .int .i64 ((lo : Int) + (k : Int))) rfl (by kernel_rfl) (by kernel_rfl) (by kernel_rfl) (fun _ _ _ h => h) (yieldsIf_move _ rfl rfl rfl) hHeld ?_
      simp only [ly1, ly2, ly3, Act.put, ly5, ly6, ly7]
      refine wpAnyH_take (i := 5) (v := .pointer (some ⟨w.heap.size + 1, 1, none⟩)) rfl (by kernel_rfl) (by kernel_rfl) (by kernel_rfl) (fun _ _ _ h => h) (.inl ⟨by kernel_rfl, fun w _ => by go_simp⟩) hHeld ?_
      simp only [ly1, ly2, ly3, Act.put, ly5, ly6, ly7]
      refine wpAnyH_take (i := 6) (v := .int .i64 (hi : Int)) rfl (by kernel_rfl) (by kernel_rfl) (by kernel_rfl) (fun _ _ _ h => h) (.inl ⟨by kernel_rfl, fun W hS => by have hc : W.cell? ⟨w.heap.size + 1, 1, none⟩ = some (.int .i64 (hi : Int)) := hS.cell 1; go_simp⟩) hHeld ?_
      simp only [ly1, ly2, ly3, Act.put, ly5, ly6, ly7]
      refine wpAnyH_take (i := 7) (v := .agg #[.int .i64 ((lo : Int) + (k : Int)), .int .i64 (hi : Int)]) rfl (by kernel_rfl) (by kernel_rfl) (by kernel_rfl) (fun _ _ _ h => h) (.inl ⟨by kernel_rfl, fun w _ => by go_simp⟩) hHeld ?_
      simp only [ly1, ly2, ly3, Act.put, ly5, ly6, ly7]
      refine wpAnyH_ready (rs := [8, 9]) (by kernel_rfl) (by simp) (AllReadyH.cons rfl (fun K hK => ?_) (AllReadyH.cons rfl (fun K hK => ?_) AllReadyH.nil))
      · skip
        have hK' := hid hK
        clear hK
        rw [if_pos (by kernel_rfl)]
        simp only [ly1, ly2, ly3]
        refine wp_run (.pointer (some ⟨Wd.heap.size, 0, none⟩)) (Wd.alloc (.cells #[.int .i64 0, .int .i64 0] 72)) (by kernel_rfl) ?_
        refine hK'.out _ _ (by exact hHd.out.alloc _) (fun hHeld => ?_)
        clear hK' K
        have hN3 := hid (Holds.new Wd 72 #[.int .i64 0, .int .i64 0])
        have hz3 := hid (alloc_size Wd (.cells #[.int .i64 0, .int .i64 0] 72))
        have hH3 := hid (hHd.out.alloc (.cells #[.int .i64 0, .int .i64 0] 72))
        have hres4 := hid (hres3.out.alloc (.cells #[.int .i64 0, .int .i64 0] 72))
        have hrow4 := hid (hrow3.out.alloc (.cells #[.int .i64 0, .int .i64 0] 72))
        have hB4 := hid (hB3.out.alloc hB3.out.size (.cells #[.int .i64 0, .int .i64 0] 72))
        generalize Wd.alloc (.cells #[.int .i64 0, .int .i64 0] 72) = W3 at *
        clear hHd hres3 hrow3 hB3
        refine wpAnyH_ready (rs := [9]) (by kernel_rfl) (by simp) (AllReadyH.cons rfl (fun K hK => ?_) AllReadyH.nil)
        have hK' := hid hK
        clear hK
        rw [if_pos (by kernel_rfl)]
        simp only [ly1, ly2, ly3]
        refine wp_run (.pointer (some ⟨W3.heap.size, 0, none⟩)) (W3.alloc (.cells #[.int .i64 0, .int .i64 0] 72)) (by kernel_rfl) ?_
        refine hK'.out _ _ (by exact hH3.out.alloc _) (fun hHeld => ?_)
        clear hK' K
        have hL4 := hid (hN3.out.alloc (.cells #[.int .i64 0, .int .i64 0] 72))
        have hR4 := hid (Holds.new W3 72 #[.int .i64 0, .int .i64 0])
        have hH4 := hid (hH3.out.alloc (.cells #[.int .i64 0, .int .i64 0] 72))
        have hres5 := hid (hres4.out.alloc (.cells #[.int .i64 0, .int .i64 0] 72))
        have hrow5 := hid (hrow4.out.alloc (.cells #[.int .i64 0, .int .i64 0] 72))
        have hB5 := hid (hB4.out.alloc hB4.out.size (.cells #[.int .i64 0, .int .i64 0] 72))
        clear hres4 hrow4 hB4
        have hres4 := hres5
        have hrow4 := hrow5
        have hB4 := hB5
        clear hres5 hrow5 hB5 hH3 hN3
        generalize W3.alloc (.cells #[.int .i64 0, .int .i64 0] 72) = W4 at *
        have hw0 := hwd.out
        have hz0' := hz3.out
        clear hwd hz3
        generalize Wd.heap.size = b1 at *
        generalize W3.heap.size = b2 at *
        have hne : b1 ≠ b2 := by omega
        have hge1 : W2.heap.size ≤ b1 := by omega
        have hge2 : W2.heap.size ≤ b2 := by omega
        clear hw0 hz0'
        refine wpAnyH_ready (rs := [10]) (by kernel_rfl) (by simp) (AllReadyH.cons rfl (fun K hK => ?_) AllReadyH.nil)
        have hK' := hid hK
        clear hK
        rw [if_pos (by kernel_rfl)]
        simp only [ly1, ly2, ly3]
        refine wp_store_mid _ _ _ rfl b1 0 #[.int .i64 (lo : Int), .int .i64 ((lo : Int) + (k : Int))] rfl rfl (by exact hL4.out.there 0 2 (Nat.le_refl 2)) (by exact Try.infoSpan) (by kernel_rfl) ?_
        generalize hW5 : World.setCells _ _ _ _ = W5
        have hL5 := hid (span_put hL4.out hW5)
        have hR5 := hid (holds_far hR4.out hne.symm hW5)
        have hH5 := hid (holds_far hH4.out (by omega) hW5)
        have hres5 := hid (holds_far hres4.out (by omega) hW5)
        have hrow5 := hid (row_far hrow4.out (fun h => by have := hrl.out _ h; omega) hW5)
        have hB5 := hid (below_put hB4.out (by omega) hW5)
        clear hW5
        refine hK'.out _ _ (by exact hH5.out) (fun hHeld => ?_)
        clear hK' K
        refine wpAnyH_ready (rs := [11]) (by kernel_rfl) (by simp) (AllReadyH.cons rfl (fun K hK => ?_) AllReadyH.nil)
        have hK' := hid hK
        clear hK
        rw [if_pos (by kernel_rfl)]
        simp only [ly1, ly2, ly3]
        refine wp_store_mid _ _ _ rfl b2 0 #[.int .i64 ((lo : Int) + (k : Int)), .int .i64 (hi : Int)] rfl rfl (by exact hR5.out.there 0 2 (Nat.le_refl 2)) (by exact Try.infoSpan) (by kernel_rfl) ?_
        generalize hW6 : World.setCells _ _ _ _ = W6
        have hR6 := hid (span_put hR5.out hW6)
        have hL6 := hid (holds_far hL5.out hne hW6)
        have hH6 := hid (holds_far hH5.out (by omega) hW6)
        have hres6 := hid (holds_far hres5.out (by omega) hW6)
        have hrow6 := hid (row_far hrow5.out (fun h => by have := hrl.out _ h; omega) hW6)
        have hB6 := hid (below_put hB5.out (by omega) hW6)
        clear hW6
        refine hK'.out _ _ (by exact hH6.out) (fun hHeld => ?_)
        clear hK' K
        refine wpAnyH_done (by kernel_rfl) ?_ _
        clear hL4 hR4 hH4 hres4 hrow4 hB4 hL5 hR5 hH5 hres5 hrow5 hB5 hHeld
        have hl6 := hL6.out.lt
        by_cases hm : m ≤ lo + k
        · have hmi : (m : Int) ≤ (lo : Int) + (k : Int) := by omega
          have c0 : W6.cell? ⟨b2, 0, none⟩ = some (.int .i64 ((lo : Int) + (k : Int))) := hR6.out.cell 0
          have c1 : W6.cell? ⟨b2, 1, none⟩ = some (.int .i64 (hi : Int)) := hR6.out.cell 1
          go_wp2_with (first
            | ((with_reducible refine at_slot (some 42) ?_); refine wpList_buildSlice_one rfl 70 82 (.tmp 41) rfl i0 _ Try.underlying70 hi0 hz0 #[.bool true, .int .i64 ((lo : Int) + (k : Int)), .int .i64 (hi : Int)] rfl (by exact hz1) (by decide) (by decide) ?_)
            | ((with_reducible refine at_slot (some 43) ?_); refine wpList_appends rfl (.tmp 39) (.tmp 42) 70 82 rfl (w.heap.size + 2) i0 _ 3 24 Try.underlying70 hi0 hz0 hz1 hz2 rfl (by decide) A ts.length c (turnsC ts) (W6.heap.size + 1) (some ⟨W6.heap.size, 0, none⟩) 1 1 [.bool true, .int .i64 ((lo : Int) + (k : Int)), .int .i64 (hi : Int)] rfl rfl (fun h => by cases h) (by simp [Value.oneCell']) (by omega) (by omega) ?_ ?_ (by simp; omega) ?_; rotate_right; intro A7 c7 W7 hrow7 hb7 hg7; rotate_left; (exact hrow6.out.alloc _); (exact At.of_holds (Holds.new W6 82 #[.bool true, .int .i64 ((lo : Int) + (k : Int)), .int .i64 (hi : Int)]) rfl (Nat.lt_succ_self _)); have hN7 := hid ((hL6.out.alloc _).grown hg7 (fun e => by have := hrl.out _ e.symm; omega)); have hH7 := hid ((hH6.out.alloc _).below hb7 (by omega)); have hres7 := hid ((hres6.out.alloc _).below hb7 (by omega)); have hB7 := hid ((hB6.out.alloc hB6.out.size _).trans (hb7.mono (by omega))); have hrow7' := hid hrow7; clear hb7 hg7 hrow7 c0 c1; have c0 := hN7.out.cell 0; have c1 := hN7.out.cell 1)
            | ((with_reducible refine at_slot none ?_); refine wpList_store_mid rfl 72 (.tmp 9) (.tmp 44) rfl (w.heap.size + 1) 0 #[.int .i64 (lo : Int), .int .i64 ((lo : Int) + (k : Int))] rfl rfl (by exact hH7.out.there 0 2 (Nat.le_refl 2)) (by exact Try.infoSpan) (by kernel_rfl) ?_; generalize hW8 : World.setCells _ _ _ _ = W8)
            | fail)
          go_roundg f
          case measure => omega
          case rel => exact ⟨ts ++ [⟨true, lo + k, hi⟩], lo, (lo + k), A7, c7, by rw [List.length_append]; rfl, by omega, by omega, by omega, by omega, by rw [List.length_append, List.length_singleton]; omega, by rw [hW1'.out, hWy'.out, if_pos hm, List.reverse_append]; simp, by rw [hW2'.out, hWy'.out, if_pos hm], DownAt.next hres7.out hH7.out hrow7'.out (by rw [List.length_append]; rfl) (by rw [turnsC_snoc]; simp [turnC]) hB7.out (by simp) (by simp) hW8⟩
        · have hmi : ¬ (m : Int) ≤ (lo : Int) + (k : Int) := by omega
          have c0 : W6.cell? ⟨b1, 0, none⟩ = some (.int .i64 (lo : Int)) := hL6.out.cell 0
          have c1 : W6.cell? ⟨b1, 1, none⟩ = some (.int .i64 ((lo : Int) + (k : Int))) := hL6.out.cell 1
          go_wp2_with (first
            | ((with_reducible refine at_slot (some 48) ?_); refine wpList_buildSlice_one rfl 70 82 (.tmp 47) rfl i0 _ Try.underlying70 hi0 hz0 #[.bool false, .int .i64 (lo : Int), .int .i64 ((lo : Int) + (k : Int))] rfl (by exact hz1) (by decide) (by decide) ?_)
            | ((with_reducible refine at_slot (some 49) ?_); refine wpList_appends rfl (.tmp 45) (.tmp 48) 70 82 rfl (w.heap.size + 2) i0 _ 3 24 Try.underlying70 hi0 hz0 hz1 hz2 rfl (by decide) A ts.length c (turnsC ts) (W6.heap.size + 1) (some ⟨W6.heap.size, 0, none⟩) 1 1 [.bool false, .int .i64 (lo : Int), .int .i64 ((lo : Int) + (k : Int))] rfl rfl (fun h => by cases h) (by simp [Value.oneCell']) (by omega) (by omega) ?_ ?_ (by simp; omega) ?_; rotate_right; intro A7 c7 W7 hrow7 hb7 hg7; rotate_left; (exact hrow6.out.alloc _); (exact At.of_holds (Holds.new W6 82 #[.bool false, .int .i64 (lo : Int), .int .i64 ((lo : Int) + (k : Int))]) rfl (Nat.lt_succ_self _)); have hN7 := hid ((hR6.out.alloc _).grown hg7 (fun e => by have := hrl.out _ e.symm; omega)); have hH7 := hid ((hH6.out.alloc _).below hb7 (by omega)); have hres7 := hid ((hres6.out.alloc _).below hb7 (by omega)); have hB7 := hid ((hB6.out.alloc hB6.out.size _).trans (hb7.mono (by omega))); have hrow7' := hid hrow7; clear hb7 hg7 hrow7 c0 c1; have c0 := hN7.out.cell 0; have c1 := hN7.out.cell 1)
            | ((with_reducible refine at_slot none ?_); refine wpList_store_mid rfl 72 (.tmp 9) (.tmp 50) rfl (w.heap.size + 1) 0 #[.int .i64 ((lo : Int) + (k : Int)), .int .i64 (hi : Int)] rfl rfl (by exact hH7.out.there 0 2 (Nat.le_refl 2)) (by exact Try.infoSpan) (by kernel_rfl) ?_; generalize hW8 : World.setCells _ _ _ _ = W8)
            | fail)
          go_roundg f
          case measure => omega
          case rel => exact ⟨ts ++ [⟨false, lo, lo + k⟩], (lo + k), hi, A7, c7, by rw [List.length_append]; rfl, by omega, by omega, by omega, by omega, by rw [List.length_append, List.length_singleton]; omega, by rw [hW1'.out, hWy'.out, if_neg hm, List.reverse_append]; simp, by rw [hW2'.out, hWy'.out, if_neg hm], DownAt.next hres7.out hH7.out hrow7'.out (by rw [List.length_append]; rfl) (by rw [turnsC_snoc]; simp [turnC]) hB7.out (by simp) (by simp) hW8⟩
      · skip
        have hK' := hid hK
        clear hK
        rw [if_pos (by kernel_rfl)]
        simp only [ly1, ly2, ly3]
        refine wp_run (.pointer (some ⟨Wd.heap.size, 0, none⟩)) (Wd.alloc (.cells #[.int .i64 0, .int .i64 0] 72)) (by kernel_rfl) ?_
        refine hK'.out _ _ (by exact hHd.out.alloc _) (fun hHeld => ?_)
        clear hK' K
        have hN3 := hid (Holds.new Wd 72 #[.int .i64 0, .int .i64 0])
        have hz3 := hid (alloc_size Wd (.cells #[.int .i64 0, .int .i64 0] 72))
        have hH3 := hid (hHd.out.alloc (.cells #[.int .i64 0, .int .i64 0] 72))
        have hres4 := hid (hres3.out.alloc (.cells #[.int .i64 0, .int .i64 0] 72))
        have hrow4 := hid (hrow3.out.alloc (.cells #[.int .i64 0, .int .i64 0] 72))
        have hB4 := hid (hB3.out.alloc hB3.out.size (.cells #[.int .i64 0, .int .i64 0] 72))
        generalize Wd.alloc (.cells #[.int .i64 0, .int .i64 0] 72) = W3 at *
        clear hHd hres3 hrow3 hB3
        refine wpAnyH_ready (rs := [8]) (by kernel_rfl) (by simp) (AllReadyH.cons rfl (fun K hK => ?_) AllReadyH.nil)
        have hK' := hid hK
        clear hK
        rw [if_pos (by kernel_rfl)]
        simp only [ly1, ly2, ly3]
        refine wp_run (.pointer (some ⟨W3.heap.size, 0, none⟩)) (W3.alloc (.cells #[.int .i64 0, .int .i64 0] 72)) (by kernel_rfl) ?_
        refine hK'.out _ _ (by exact hH3.out.alloc _) (fun hHeld => ?_)
        clear hK' K
        have hR4 := hid (hN3.out.alloc (.cells #[.int .i64 0, .int .i64 0] 72))
        have hL4 := hid (Holds.new W3 72 #[.int .i64 0, .int .i64 0])
        have hH4 := hid (hH3.out.alloc (.cells #[.int .i64 0, .int .i64 0] 72))
        have hres5 := hid (hres4.out.alloc (.cells #[.int .i64 0, .int .i64 0] 72))
        have hrow5 := hid (hrow4.out.alloc (.cells #[.int .i64 0, .int .i64 0] 72))
        have hB5 := hid (hB4.out.alloc hB4.out.size (.cells #[.int .i64 0, .int .i64 0] 72))
        clear hres4 hrow4 hB4
        have hres4 := hres5
        have hrow4 := hrow5
        have hB4 := hB5
        clear hres5 hrow5 hB5 hH3 hN3
        generalize W3.alloc (.cells #[.int .i64 0, .int .i64 0] 72) = W4 at *
        have hw0 := hwd.out
        have hz0' := hz3.out
        clear hwd hz3
        generalize Wd.heap.size = b2 at *
        generalize W3.heap.size = b1 at *
        have hne : b1 ≠ b2 := by omega
        have hge1 : W2.heap.size ≤ b1 := by omega
        have hge2 : W2.heap.size ≤ b2 := by omega
        clear hw0 hz0'
        refine wpAnyH_ready (rs := [10]) (by kernel_rfl) (by simp) (AllReadyH.cons rfl (fun K hK => ?_) AllReadyH.nil)
        have hK' := hid hK
        clear hK
        rw [if_pos (by kernel_rfl)]
        simp only [ly1, ly2, ly3]
        refine wp_store_mid _ _ _ rfl b1 0 #[.int .i64 (lo : Int), .int .i64 ((lo : Int) + (k : Int))] rfl rfl (by exact hL4.out.there 0 2 (Nat.le_refl 2)) (by exact Try.infoSpan) (by kernel_rfl) ?_
        generalize hW5 : World.setCells _ _ _ _ = W5
        have hL5 := hid (span_put hL4.out hW5)
        have hR5 := hid (holds_far hR4.out hne.symm hW5)
        have hH5 := hid (holds_far hH4.out (by omega) hW5)
        have hres5 := hid (holds_far hres4.out (by omega) hW5)
        have hrow5 := hid (row_far hrow4.out (fun h => by have := hrl.out _ h; omega) hW5)
        have hB5 := hid (below_put hB4.out (by omega) hW5)
        clear hW5
        refine hK'.out _ _ (by exact hH5.out) (fun hHeld => ?_)
        clear hK' K
        refine wpAnyH_ready (rs := [11]) (by kernel_rfl) (by simp) (AllReadyH.cons rfl (fun K hK => ?_) AllReadyH.nil)
        have hK' := hid hK
        clear hK
        rw [if_pos (by kernel_rfl)]
        simp only [ly1, ly2, ly3]
        refine wp_store_mid _ _ _ rfl b2 0 #[.int .i64 ((lo : Int) + (k : Int)), .int .i64 (hi : Int)] rfl rfl (by exact hR5.out.there 0 2 (Nat.le_refl 2)) (by exact Try.infoSpan) (by kernel_rfl) ?_
        generalize hW6 : World.setCells _ _ _ _ = W6
        have hR6 := hid (span_put hR5.out hW6)
        have hL6 := hid (holds_far hL5.out hne hW6)
        have hH6 := hid (holds_far hH5.out (by omega) hW6)
        have hres6 := hid (holds_far hres5.out (by omega) hW6)
        have hrow6 := hid (row_far hrow5.out (fun h => by have := hrl.out _ h; omega) hW6)
        have hB6 := hid (below_put hB5.out (by omega) hW6)
        clear hW6
        refine hK'.out _ _ (by exact hH6.out) (fun hHeld => ?_)
        clear hK' K
        refine wpAnyH_done (by kernel_rfl) ?_ _
        clear hL4 hR4 hH4 hres4 hrow4 hB4 hL5 hR5 hH5 hres5 hrow5 hB5 hHeld
        have hl6 := hL6.out.lt
        by_cases hm : m ≤ lo + k
        · have hmi : (m : Int) ≤ (lo : Int) + (k : Int) := by omega
          have c0 : W6.cell? ⟨b2, 0, none⟩ = some (.int .i64 ((lo : Int) + (k : Int))) := hR6.out.cell 0
          have c1 : W6.cell? ⟨b2, 1, none⟩ = some (.int .i64 (hi : Int)) := hR6.out.cell 1
          go_wp2_with (first
            | ((with_reducible refine at_slot (some 42) ?_); refine wpList_buildSlice_one rfl 70 82 (.tmp 41) rfl i0 _ Try.underlying70 hi0 hz0 #[.bool true, .int .i64 ((lo : Int) + (k : Int)), .int .i64 (hi : Int)] rfl (by exact hz1) (by decide) (by decide) ?_)
            | ((with_reducible refine at_slot (some 43) ?_); refine wpList_appends rfl (.tmp 39) (.tmp 42) 70 82 rfl (w.heap.size + 2) i0 _ 3 24 Try.underlying70 hi0 hz0 hz1 hz2 rfl (by decide) A ts.length c (turnsC ts) (W6.heap.size + 1) (some ⟨W6.heap.size, 0, none⟩) 1 1 [.bool true, .int .i64 ((lo : Int) + (k : Int)), .int .i64 (hi : Int)] rfl rfl (fun h => by cases h) (by simp [Value.oneCell']) (by omega) (by omega) ?_ ?_ (by simp; omega) ?_; rotate_right; intro A7 c7 W7 hrow7 hb7 hg7; rotate_left; (exact hrow6.out.alloc _); (exact At.of_holds (Holds.new W6 82 #[.bool true, .int .i64 ((lo : Int) + (k : Int)), .int .i64 (hi : Int)]) rfl (Nat.lt_succ_self _)); have hN7 := hid ((hL6.out.alloc _).grown hg7 (fun e => by have := hrl.out _ e.symm; omega)); have hH7 := hid ((hH6.out.alloc _).below hb7 (by omega)); have hres7 := hid ((hres6.out.alloc _).below hb7 (by omega)); have hB7 := hid ((hB6.out.alloc hB6.out.size _).trans (hb7.mono (by omega))); have hrow7' := hid hrow7; clear hb7 hg7 hrow7 c0 c1; have c0 := hN7.out.cell 0; have c1 := hN7.out.cell 1)
            | ((with_reducible refine at_slot none ?_); refine wpList_store_mid rfl 72 (.tmp 9) (.tmp 44) rfl (w.heap.size + 1) 0 #[.int .i64 (lo : Int), .int .i64 ((lo : Int) + (k : Int))] rfl rfl (by exact hH7.out.there 0 2 (Nat.le_refl 2)) (by exact Try.infoSpan) (by kernel_rfl) ?_; generalize hW8 : World.setCells _ _ _ _ = W8)
            | fail)
          go_roundg f
          case measure => omega
          case rel => exact ⟨ts ++ [⟨true, lo + k, hi⟩], lo, (lo + k), A7, c7, by rw [List.length_append]; rfl, by omega, by omega, by omega, by omega, by rw [List.length_append, List.length_singleton]; omega, by rw [hW1'.out, hWy'.out, if_pos hm, List.reverse_append]; simp, by rw [hW2'.out, hWy'.out, if_pos hm], DownAt.next hres7.out hH7.out hrow7'.out (by rw [List.length_append]; rfl) (by rw [turnsC_snoc]; simp [turnC]) hB7.out (by simp) (by simp) hW8⟩
        · have hmi : ¬ (m : Int) ≤ (lo : Int) + (k : Int) := by omega
          have c0 : W6.cell? ⟨b1, 0, none⟩ = some (.int .i64 (lo : Int)) := hL6.out.cell 0
          have c1 : W6.cell? ⟨b1, 1, none⟩ = some (.int .i64 ((lo : Int) + (k : Int))) := hL6.out.cell 1
          go_wp2_with (first
            | ((with_reducible refine at_slot (some 48) ?_); refine wpList_buildSlice_one rfl 70 82 (.tmp 47) rfl i0 _ Try.underlying70 hi0 hz0 #[.bool false, .int .i64 (lo : Int), .int .i64 ((lo : Int) + (k : Int))] rfl (by exact hz1) (by decide) (by decide) ?_)
            | ((with_reducible refine at_slot (some 49) ?_); refine wpList_appends rfl (.tmp 45) (.tmp 48) 70 82 rfl (w.heap.size + 2) i0 _ 3 24 Try.underlying70 hi0 hz0 hz1 hz2 rfl (by decide) A ts.length c (turnsC ts) (W6.heap.size + 1) (some ⟨W6.heap.size, 0, none⟩) 1 1 [.bool false, .int .i64 (lo : Int), .int .i64 ((lo : Int) + (k : Int))] rfl rfl (fun h => by cases h) (by simp [Value.oneCell']) (by omega) (by omega) ?_ ?_ (by simp; omega) ?_; rotate_right; intro A7 c7 W7 hrow7 hb7 hg7; rotate_left; (exact hrow6.out.alloc _); (exact At.of_holds (Holds.new W6 82 #[.bool false, .int .i64 (lo : Int), .int .i64 ((lo : Int) + (k : Int))]) rfl (Nat.lt_succ_self _)); have hN7 := hid ((hR6.out.alloc _).grown hg7 (fun e => by have := hrl.out _ e.symm; omega)); have hH7 := hid ((hH6.out.alloc _).below hb7 (by omega)); have hres7 := hid ((hres6.out.alloc _).below hb7 (by omega)); have hB7 := hid ((hB6.out.alloc hB6.out.size _).trans (hb7.mono (by omega))); have hrow7' := hid hrow7; clear hb7 hg7 hrow7 c0 c1; have c0 := hN7.out.cell 0; have c1 := hN7.out.cell 1)
            | ((with_reducible refine at_slot none ?_); refine wpList_store_mid rfl 72 (.tmp 9) (.tmp 50) rfl (w.heap.size + 1) 0 #[.int .i64 ((lo : Int) + (k : Int)), .int .i64 (hi : Int)] rfl rfl (by exact hH7.out.there 0 2 (Nat.le_refl 2)) (by exact Try.infoSpan) (by kernel_rfl) ?_; generalize hW8 : World.setCells _ _ _ _ = W8)
            | fail)
          go_roundg f
          case measure => omega
          case rel => exact ⟨ts ++ [⟨false, lo, lo + k⟩], (lo + k), hi, A7, c7, by rw [List.length_append]; rfl, by omega, by omega, by omega, by omega, by rw [List.length_append, List.length_singleton]; omega, by rw [hW1'.out, hWy'.out, if_neg hm, List.reverse_append]; simp, by rw [hW2'.out, hWy'.out, if_neg hm], DownAt.next hres7.out hH7.out hrow7'.out (by rw [List.length_append]; rfl) (by rw [turnsC_snoc]; simp [turnC]) hB7.out (by simp) (by simp) hW8⟩

end Go.Proofs.Ytenfhmpjhbpkpaa
namespace Go.Proofs.Ytenfhmpjhbpkpaa
open Go.RowKit
open Go.Lib (strCells strCells_length strCells_oneCell)
attribute [local irreducible] Sha.compress Sha.blocks Sha.sha Sha.pad

theorem size_three (w : World) (a b c d : Obj) : (((w.alloc a).alloc b).alloc c).heap.size = w.heap.size + 3 ∧ ((w.alloc a).alloc b).heap.size = w.heap.size + 2 ∧ (w.alloc a).heap.size = w.heap.size + 1 ∧ ((((w.alloc a).alloc b).alloc c).alloc d).heap.size = w.heap.size + 4 := by simp

set_option maxRecDepth 100000 in
set_option maxHeartbeats 2000000 in
theorem join_any (t : Mth.Turn) (a b : List UInt8) (ha : a.length = 32) (hb : b.length = 32) (w : World) : Calls Try.prog 53 #[turnV t, hv a, hv b] w fun e w' => e = .returned (hv (Mth.oneUp nodeH t a b)) ∧ Below w.heap.size w w' := by
  have hva := hid (fun W g h => hv_text a ha W g h)
  have hvb := hid (fun W g h => hv_text b hb W g h)
  have hla : (byteCells a).length = 32 := by rw [byteCells, List.length_map, ha]
  have hlb : (byteCells b).length = 32 := by rw [byteCells, List.length_map, hb]
  obtain ⟨left, lo, hi⟩ := t
  unfold turnV
  obtain ⟨W0, hW0⟩ : ∃ W0, (((w.alloc (.cells #[.bool left, .int .i64 (lo : Int), .int .i64 (hi : Int)] 82)).alloc (.cells (byteCells a).toArray 28)).alloc (.cells (byteCells b).toArray 28)).alloc (.cells z32 28) = W0 := ⟨_, rfl⟩
  obtain ⟨z3, z2, z1, z4⟩ := size_three w (.cells #[.bool left, .int .i64 (lo : Int), .int .i64 (hi : Int)] 82) (.cells (byteCells a).toArray 28) (.cells (byteCells b).toArray 28) (.cells z32 28)
  have hT : Holds W0 w.heap.size 82 [.bool left, .int .i64 (lo : Int), .int .i64 (hi : Int)] := by rw [← hW0]; exact (((Holds.new w _ _).alloc _).alloc _).alloc _
  have hA : Holds W0 (w.heap.size + 1) 28 (byteCells a) := by rw [← hW0, ← z1]; exact ((Holds.new _ 28 (byteCells a).toArray).alloc _).alloc _
  have hB : Holds W0 (w.heap.size + 2) 28 (byteCells b) := by rw [← hW0, ← z2]; exact (Holds.new _ 28 (byteCells b).toArray).alloc _
  have hR : Holds W0 (w.heap.size + 3) 28 z32.toList := by rw [← hW0, ← z3]; exact Holds.new _ 28 z32
  have hbl : Below w.heap.size w W0 := by rw [← hW0]; exact ((((Below.refl _ _).alloc (Nat.le_refl _) _).alloc (by simp) _).alloc (by simp; omega) _).alloc (by simp; omega) _
  have hdr : Below W0.heap.size W0 W0.drew := (Below.refl _ _).drew
  have hAd := hid (hA.below hdr hA.lt)
  have hBd := hid (hB.below hdr hB.lt)
  have hRd := hid (hR.below hdr hR.lt)
  have hbd := hid (below_up hdr hbl)
  have hTl : W0.cell? ⟨w.heap.size, 0, none⟩ = some (.bool left) := hT.cell 0
  have hW0' := hid hW0
  have hla' := hid hla
  have hlb' := hid hlb
  have z3' := hid z3
  unfold hv
  clear hA hB hR hT hbl hdr hW0 hla hlb z1 z2 z3 z4
  cases left
  · have hs := hid (fun W => sum_any (nodeT b a) W (by rw [nodeT_size b a hb ha]; omega))
    have hC := hid (hash_node b a)
    unfold hashV at hs
    rw [nodeT_sha] at hs
    have hcat1 : 1 + (txt b).size ≤ 9223372036854775807 := by rw [txt_size, hb]; decide
    have hcat2 : 1 + (txt b).size + (txt a).size ≤ 9223372036854775807 := by rw [txt_size, txt_size, ha, hb]; decide
    have hnt' := hid (show ⟨#[1]⟩ ++ txt b ++ txt a = nodeT b a from rfl)
    have e9 : Mth.oneUp nodeH ⟨false, lo, hi⟩ a b = nodeH b a := rfl
    rw [e9]
    generalize byteCells (nodeH b a) = cs at *
    generalize byteCells a = ca at *
    generalize byteCells b = cb at *
    generalize nodeT b a = X at *
    generalize txt a = ta at *
    generalize txt b = tb at *
    go_enter Try.func53, Try.ntmps53
    go_wp2_with ((with_reducible refine at_slot (some 6) ?_); refine wpList_run rfl (.pointer (some ⟨(((w.alloc (.cells #[.bool false, .int .i64 (lo : Int), .int .i64 (hi : Int)] 82)).alloc (.cells ca.toArray 28)).alloc (.cells cb.toArray 28)).heap.size, 0, none⟩)) ((((w.alloc (.cells #[.bool false, .int .i64 (lo : Int), .int .i64 (hi : Int)] 82)).alloc (.cells ca.toArray 28)).alloc (.cells cb.toArray 28)).alloc (.cells z32 28)) (by kernel_rfl) ?_; rw [hW0'.out, z3'.out])
    refine wp_region_held_drew (S := fun W => Holds W (w.heap.size + 1) 28 ca ∧ Holds W (w.heap.size + 2) 28 cb) (by kernel_rfl) (by exact ⟨hAd.out, hBd.out⟩) (fun hHeld => ?_)
    refine wpAnyH_take (i := 0) (v := .slice (some ⟨w.heap.size + 2, 0, none⟩) 32 32) rfl (by kernel_rfl) (by kernel_rfl) (by kernel_rfl) (fun _ _ _ h => h) (.inl ⟨by kernel_rfl, fun w _ => by go_simp⟩) hHeld ?_
    simp only [ly1, ly2, ly3, Act.put, ly5, ly6, ly7]
    refine wpAnyH_take (i := 1) (v := .string tb) rfl (by kernel_rfl) (by kernel_rfl) (by kernel_rfl) (fun _ _ _ h => h) (.inl ⟨by kernel_rfl, fun W hS => by have hc := hvb.out W _ hS.2; go_simp⟩) hHeld ?_
    simp only [ly1, ly2, ly3, Act.put, ly5, ly6, ly7]
    refine wpAnyH_take (i := 2) (v := .string (⟨#[1]⟩ ++ tb)) rfl (by kernel_rfl) (by kernel_rfl) (by kernel_rfl) (fun _ _ _ h => h) (.inl ⟨by kernel_rfl, fun w _ => by go_simp⟩) hHeld ?_
    simp only [ly1, ly2, ly3, Act.put, ly5, ly6, ly7]
    refine wpAnyH_take (i := 3) (v := .slice (some ⟨w.heap.size + 1, 0, none⟩) 32 32) rfl (by kernel_rfl) (by kernel_rfl) (by kernel_rfl) (fun _ _ _ h => h) (.inl ⟨by kernel_rfl, fun w _ => by go_simp⟩) hHeld ?_
    simp only [ly1, ly2, ly3, Act.put, ly5, ly6, ly7]
    refine wpAnyH_take (i := 4) (v := .string ta) rfl (by kernel_rfl) (by kernel_rfl) (by kernel_rfl) (fun _ _ _ h => h) (.inl ⟨by kernel_rfl, fun W hS => by have hc := hva.out W _ hS.1; go_simp⟩) hHeld ?_
    simp only [ly1, ly2, ly3, Act.put, ly5, ly6, ly7]
    refine wpAnyH_take (i := 5) (v := .string (⟨#[1]⟩ ++ tb ++ ta)) rfl (by kernel_rfl) (by kernel_rfl) (by kernel_rfl) (fun _ _ _ h => h) (.inl ⟨by kernel_rfl, fun w _ => by go_simp⟩) hHeld ?_
    simp only [ly1, ly2, ly3, Act.put, ly5, ly6, ly7]
    refine wpAnyH_ready (rs := [6]) (by kernel_rfl) (by simp) (AllReadyH.cons rfl (fun K hK => ?_) AllReadyH.nil)
    have hK' := hid hK
    clear hK
    rw [if_pos (by kernel_rfl)]
    simp only [ly1, ly2, ly3]
    go_simp
    rw [hnt'.out]
    refine (hs.out _).mono ?_
    rintro e W2 ⟨rfl, hb2⟩
    have hA2 := hid (hAd.out.below hb2 hAd.out.lt)
    have hB2 := hid (hBd.out.below hb2 hBd.out.lt)
    have hR2 := hid (hRd.out.below hb2 hRd.out.lt)
    have hb2' := hid (below_up hb2 hbd.out)
    clear hb2
    refine hK'.out _ _ (by exact ⟨hA2.out, hB2.out⟩) (fun hHeld => ?_)
    clear hK' K
    refine wpAnyH_ready (rs := [7]) (by kernel_rfl) (by simp) (AllReadyH.cons rfl (fun K hK => ?_) AllReadyH.nil)
    have hK' := hid hK
    clear hK
    rw [if_pos (by kernel_rfl)]
    simp only [ly1, ly2, ly3]
    refine wp_store_mid _ _ _ rfl (w.heap.size + 3) 0 cs.toArray rfl rfl (by exact hC.out.there' hR2.out rfl) (by exact hC.out.size) (by exact hC.out.one) ?_
    generalize hW3 : World.setCells _ _ _ _ = W3
    obtain ⟨hH3, hB3⟩ := hC.out.set hR2.out rfl hW3 hb2'.out (by omega)
    have hA3 := hid (show Holds W3 (w.heap.size + 1) 28 ca from by rw [← hW3]; exact (cells_far _ _ _ _ _ (by omega)).trans hA2.out)
    have hB3' := hid (show Holds W3 (w.heap.size + 2) 28 cb from by rw [← hW3]; exact (cells_far _ _ _ _ _ (by omega)).trans hB2.out)
    have hH3' := hid hH3
    have hb3' := hid hB3
    clear hW3 hH3 hB3
    refine hK'.out _ _ (by exact ⟨hA3.out, hB3'.out⟩) (fun hHeld => ?_)
    clear hK' K
    refine wpAnyH_done (by kernel_rfl) ?_ _
    go_wp2_with fail
    exact bodyPost_ret (results_cell_row rfl _ _ (w.heap.size + 3) 28 _ (0, 0) _ rfl hH3'.out Try.underlying28 rfl (by exact hC.out.size)) rfl ⟨rfl, hb3'.out⟩
  · have hs := hid (fun W => sum_any (nodeT a b) W (by rw [nodeT_size a b ha hb]; omega))
    have hC := hid (hash_node a b)
    unfold hashV at hs
    rw [nodeT_sha] at hs
    have hcat1 : 1 + (txt a).size ≤ 9223372036854775807 := by rw [txt_size, ha]; decide
    have hcat2 : 1 + (txt a).size + (txt b).size ≤ 9223372036854775807 := by rw [txt_size, txt_size, ha, hb]; decide
    have hnt' := hid (show ⟨#[1]⟩ ++ txt a ++ txt b = nodeT a b from rfl)
    have e9 : Mth.oneUp nodeH ⟨true, lo, hi⟩ a b = nodeH a b := rfl
    rw [e9]
    generalize byteCells (nodeH a b) = cs at *
    generalize byteCells a = ca at *
    generalize byteCells b = cb at *
    generalize nodeT a b = X at *
    generalize txt a = ta at *
    generalize txt b = tb at *
    go_enter Try.func53, Try.ntmps53
    go_wp2_with ((with_reducible refine at_slot (some 6) ?_); refine wpList_run rfl (.pointer (some ⟨(((w.alloc (.cells #[.bool true, .int .i64 (lo : Int), .int .i64 (hi : Int)] 82)).alloc (.cells ca.toArray 28)).alloc (.cells cb.toArray 28)).heap.size, 0, none⟩)) ((((w.alloc (.cells #[.bool true, .int .i64 (lo : Int), .int .i64 (hi : Int)] 82)).alloc (.cells ca.toArray 28)).alloc (.cells cb.toArray 28)).alloc (.cells z32 28)) (by kernel_rfl) ?_; rw [hW0'.out, z3'.out])
    refine wp_region_held_drew (S := fun W => Holds W (w.heap.size + 1) 28 ca ∧ Holds W (w.heap.size + 2) 28 cb) (by kernel_rfl) (by exact ⟨hAd.out, hBd.out⟩) (fun hHeld => ?_)
    refine wpAnyH_take (i := 0) (v := .slice (some ⟨w.heap.size + 1, 0, none⟩) 32 32) rfl (by kernel_rfl) (by kernel_rfl) (by kernel_rfl) (fun _ _ _ h => h) (.inl ⟨by kernel_rfl, fun w _ => by go_simp⟩) hHeld ?_
    simp only [ly1, ly2, ly3, Act.put, ly5, ly6, ly7]
    refine wpAnyH_take (i := 1) (v := .string ta) rfl (by kernel_rfl) (by kernel_rfl) (by kernel_rfl) (fun _ _ _ h => h) (.inl ⟨by kernel_rfl, fun W hS => by have hc := hva.out W _ hS.1; go_simp⟩) hHeld ?_
    simp only [ly1, ly2, ly3, Act.put, ly5, ly6, ly7]
    refine wpAnyH_take (i := 2) (v := .string (⟨#[1]⟩ ++ ta)) rfl (by kernel_rfl) (by kernel_rfl) (by kernel_rfl) (fun _ _ _ h => h) (.inl ⟨by kernel_rfl, fun w _ => by go_simp⟩) hHeld ?_
    simp only [ly1, ly2, ly3, Act.put, ly5, ly6, ly7]
    refine wpAnyH_take (i := 3) (v := .slice (some ⟨w.heap.size + 2, 0, none⟩) 32 32) rfl (by kernel_rfl) (by kernel_rfl) (by kernel_rfl) (fun _ _ _ h => h) (.inl ⟨by kernel_rfl, fun w _ => by go_simp⟩) hHeld ?_
    simp only [ly1, ly2, ly3, Act.put, ly5, ly6, ly7]
    refine wpAnyH_take (i := 4) (v := .string tb) rfl (by kernel_rfl) (by kernel_rfl) (by kernel_rfl) (fun _ _ _ h => h) (.inl ⟨by kernel_rfl, fun W hS => by have hc := hvb.out W _ hS.2; go_simp⟩) hHeld ?_
    simp only [ly1, ly2, ly3, Act.put, ly5, ly6, ly7]
    refine wpAnyH_take (i := 5) (v := .string (⟨#[1]⟩ ++ ta ++ tb)) rfl (by kernel_rfl) (by kernel_rfl) (by kernel_rfl) (fun _ _ _ h => h) (.inl ⟨by kernel_rfl, fun w _ => by go_simp⟩) hHeld ?_
    simp only [ly1, ly2, ly3, Act.put, ly5, ly6, ly7]
    refine wpAnyH_ready (rs := [6]) (by kernel_rfl) (by simp) (AllReadyH.cons rfl (fun K hK => ?_) AllReadyH.nil)
    have hK' := hid hK
    clear hK
    rw [if_pos (by kernel_rfl)]
    simp only [ly1, ly2, ly3]
    go_simp
    rw [hnt'.out]
    refine (hs.out _).mono ?_
    rintro e W2 ⟨rfl, hb2⟩
    have hA2 := hid (hAd.out.below hb2 hAd.out.lt)
    have hB2 := hid (hBd.out.below hb2 hBd.out.lt)
    have hR2 := hid (hRd.out.below hb2 hRd.out.lt)
    have hb2' := hid (below_up hb2 hbd.out)
    clear hb2
    refine hK'.out _ _ (by exact ⟨hA2.out, hB2.out⟩) (fun hHeld => ?_)
    clear hK' K
    refine wpAnyH_ready (rs := [7]) (by kernel_rfl) (by simp) (AllReadyH.cons rfl (fun K hK => ?_) AllReadyH.nil)
    have hK' := hid hK
    clear hK
    rw [if_pos (by kernel_rfl)]
    simp only [ly1, ly2, ly3]
    refine wp_store_mid _ _ _ rfl (w.heap.size + 3) 0 cs.toArray rfl rfl (by exact hC.out.there' hR2.out rfl) (by exact hC.out.size) (by exact hC.out.one) ?_
    generalize hW3 : World.setCells _ _ _ _ = W3
    obtain ⟨hH3, hB3⟩ := hC.out.set hR2.out rfl hW3 hb2'.out (by omega)
    have hA3 := hid (show Holds W3 (w.heap.size + 1) 28 ca from by rw [← hW3]; exact (cells_far _ _ _ _ _ (by omega)).trans hA2.out)
    have hB3' := hid (show Holds W3 (w.heap.size + 2) 28 cb from by rw [← hW3]; exact (cells_far _ _ _ _ _ (by omega)).trans hB2.out)
    have hH3' := hid hH3
    have hb3' := hid hB3
    clear hW3 hH3 hB3
    refine hK'.out _ _ (by exact ⟨hA3.out, hB3'.out⟩) (fun hHeld => ?_)
    clear hK' K
    refine wpAnyH_done (by kernel_rfl) ?_ _
    go_wp2_with fail
    exact bodyPost_ret (results_cell_row rfl _ _ (w.heap.size + 3) 28 _ (0, 0) _ rfl hH3'.out Try.underlying28 rfl (by exact hC.out.size)) rfl ⟨rfl, hb3'.out⟩

/-- A row of turns, read. -/
theorem turns_get {w : World} {B n : Nat} {A : Option Addr} {ts : List Mth.Turn} (h : At w B 3 A n (turnsC ts)) (hn : ts.length = n) {k : Nat} (hk : k < n) :
    ∃ p t, A = some p ∧ p.block < B ∧ t ∈ ts ∧ ts[k]? = some t ∧ CellsAt w (p.add (k * 3)) (turnC t) := by
  have hx : ts[k]? = some (ts[k]'(by omega)) := List.getElem?_eq_getElem (by omega)
  rcases h.2 with h0 | ⟨p, hA, hB, hc⟩
  · omega
  · refine ⟨p, _, hA, hB, List.getElem_mem .., hx, fun j v hv => ?_⟩
    have hj : j < 3 := (List.getElem?_eq_some_iff.1 hv).1
    have e := turnsC_at ts k _ hx j hj
    rw [hv] at e
    obtain ⟨hlt, he⟩ := List.getElem?_eq_some_iff.1 e
    have h2 := hc (k * 3 + j) hlt
    rw [he] at h2
    rw [add_add]
    exact h2

/-- A part of a list of texts. -/
theorem Texts.part {w : World} {B n : Nat} {p : Addr} {xs : List ByteArray} (h : Texts w B (some p) n xs) {lo hi : Nat} (h1 : lo < hi) (h2 : hi ≤ n) : Texts w B (some (p.add lo)) (hi - lo) (Mth.seg xs lo hi) := by
  have ht := (h.take h2).drop h1
  exact ht

end Go.Proofs.Ytenfhmpjhbpkpaa
namespace Go.Proofs.Ytenfhmpjhbpkpaa
open Go.RowKit
open Go.Lib (strCells strCells_length strCells_oneCell)
attribute [local irreducible] Sha.compress Sha.blocks Sha.sha Sha.pad

/-- The roots of what the turns leave behind. -/
def rootsH (xs : List ByteArray) (ts : List Mth.Turn) : List (List UInt8) := ts.map fun t => rootH (Mth.seg xs t.lo t.hi)

theorem rootsH_next (xs : List ByteArray) {ts : List Mth.Turn} {k : Nat} {t : Mth.Turn} (h : ts[k]? = some t) : rootsH xs (ts.take (k + 1)) = rootsH xs (ts.take k) ++ [rootH (Mth.seg xs t.lo t.hi)] := by
  unfold rootsH
  rw [List.take_add_one, h]
  simp

set_option maxRecDepth 100000 in
set_option maxHeartbeats 2000000 in
theorem roots_any (A : Option Addr) (n c : Nat) (xs : List ByteArray) (A' : Option Addr) (q c' : Nat) (ts : List Mth.Turn) (w : World) (hX : Texts w w.heap.size A n xs) (hnc : n ≤ c) (hn : n ≤ 1000) (hs : ∀ s ∈ xs, s.size ≤ 140737488351232)
    (hT : At w w.heap.size 3 A' q (turnsC ts)) (hq : ts.length = q) (hq2 : q ≤ 1000) (ht : ∀ t ∈ ts, t.lo < t.hi ∧ t.hi ≤ n) :
    Calls Try.prog 50 #[.slice A n c, .slice A' q c'] w fun e w' => ∃ A2 c2, e = .returned (.slice A2 q c2) ∧ w'.ownsRow w.heap.size 28 32 (.slice A2 q c2) q (hashCells (rootsH xs ts)) ∧ Below w.heap.size w w' := by
  obtain ⟨i0, hi0, hz0, hz1, hz2⟩ := info_parts Try.infoHashD
  have hX' := hid hX
  have hT' := hid hT
  have hs' := hid hs
  have ht' := hid ht
  have hq' := hid hq
  clear hX hT hs ht hq
  go_enter Try.func50, Try.ntmps50
  go_wp2_with fail
  go_loopw [5, 10] (fun v i wr => ∃ (k : Nat) (A5 : Option Addr) (c5 : Nat), k ≤ q ∧ i = .int .i64 (k : Int) ∧ v = .slice A5 k c5 ∧ wr.ownsRow w.heap.size 28 32 (.slice A5 k c5) k (hashCells (rootsH xs (ts.take k))) ∧ Below w.heap.size w wr) (fun _ i _ => q - (intOf i).toNat)
  case atStart => exact ⟨0, none, 0, Nat.zero_le _, rfl, rfl, World.ownsRow_nil _ _ _ _, Below.refl _ _⟩
  case round =>
    obtain ⟨k, A5, c5, hk, rfl, rfl, hrow, hB⟩ := hrel
    have hrow' := hid hrow
    have hB' := hid hB
    clear hrow hB
    by_cases hlt : k < q
    · obtain ⟨p', t, rfl, hpB, htm, htk, hc⟩ := turns_get hT'.out hq'.out hlt
      obtain ⟨t1, t2⟩ := ht'.out t htm
      have hnx := hid (rootsH_next xs htk)
      obtain ⟨left, lo, hi⟩ := t
      dsimp only at t1 t2 hnx
      obtain ⟨p, rfl⟩ : ∃ p, A = some p := by
        obtain ⟨p, e, -⟩ := hX'.out.get (show 0 < n by omega)
        exact ⟨p, e⟩
      have hcw := hid (hc.below hB'.out (by rw [add_block]; exact hpB))
      have hkq : (k : Int) < (q : Int) := by omega
      have l0 : (0 : Int) ≤ (lo : Int) := by omega
      have l1 : (lo : Int) ≤ (hi : Int) := by omega
      have l2 : (hi : Int) ≤ (c : Int) := by omega
      have l3 : ¬ c = lo := by omega
      have l4 : (lo : Int).toNat = lo := by omega
      have l5 : (hi : Int).toNat = hi := by omega
      have hro := hid (fun W (hW : Below w.heap.size w W) => mRoot_any (some (p.add lo)) (hi - lo) (c - lo) (Mth.seg xs lo hi) W (((hX'.out.below hW).part t1 t2).more hW.size) (by omega) (fun s hm => hs'.out s (List.mem_of_mem_take (List.mem_of_mem_drop hm))))
      have hC := hid (hash_root (Mth.seg xs lo hi))
      have hone := hid (byteCells_one (rootH (Mth.seg xs lo hi)))
      have hcs1 := hid (hashCells_one (rootH (Mth.seg xs lo hi)))
      unfold hv at hro
      generalize byteCells (rootH (Mth.seg xs lo hi)) = cs at *
      have hB1 := hid (hB'.out.alloc hB'.out.size (.cells #[.bool left, .int .i64 (lo : Int), .int .i64 (hi : Int)] 82))
      clear hc htm htk hpB
      go_wp2_with (first
        | ((with_reducible refine at_slot (some 13) ?_); refine wpList_load_far rfl 82 (.tmp 12) rfl (p'.add (k * 3)) rfl [.bool left, .int .i64 (lo : Int), .int .i64 (hi : Int)] _ hcw.out Try.underlying82 rfl (by kernel_rfl) ?_)
        | fail)
      refine (hro.out _ hB1.out).mono ?_
      rintro e W2 ⟨rfl, hb2⟩
      have hB2 := hid (below_up hb2 hB1.out)
      have hrow2 := hid (row_below (hrow'.out.alloc (.cells #[.bool left, .int .i64 (lo : Int), .int .i64 (hi : Int)] 82)) hb2)
      have hw2 : w.heap.size ≤ W2.heap.size := hB2.out.size
      clear hb2
      rename_i hK1
      refine hK1 _ _ ?_
      clear hK1
      go_wp2_with (first
        | ((with_reducible refine at_slot (some 24) ?_); refine wpList_buildSlice_one rfl 41 28 (.tmp 23) rfl i0 _ Try.underlying41 hi0 hz0 cs.toArray rfl (by rw [hz1, List.size_toArray, hC.out.len]) (by rw [List.size_toArray, hC.out.len]; decide) (by rw [List.size_toArray, hC.out.len]; decide) ?_)
        | ((with_reducible refine at_slot (some 25) ?_); refine wpList_appends rfl (.tmp 14) (.tmp 24) 41 28 rfl w.heap.size i0 _ 32 32 Try.underlying41 hi0 hz0 hz1 hz2 (by decide) (by decide) A5 k c5 _ (W2.heap.size + 1) (some ⟨W2.heap.size, 0, none⟩) 1 1 cs rfl rfl (fun h => by cases h) (by exact hone.out) (by omega) (by omega) (by exact hrow2.out.alloc _) (by exact At.of_holds (Holds.new W2 28 cs.toArray) hC.out.len (Nat.lt_succ_self _)) (by simp; omega) ?_; intro A7 c7 W7 hrow7 hb7 hg7; have hB7 := hid ((hB2.out.alloc hB2.out.size _).trans hb7); have hrow7' := hid hrow7; clear hrow7 hb7 hg7)
        | fail)
      go_roundw
      case rel => exact ⟨k + 1, A7, c7, by omega, by go_num, rfl, by rw [hnx.out, hashCells_append, hcs1.out]; exact hrow7'.out, hB7.out⟩
      case measure => simp [intOf]; omega
    · obtain rfl : k = q := by omega
      go_wp2
      go_ret
      refine ⟨A5, c5, rfl, ?_, hB'.out⟩
      have hr := hrow'.out
      rw [List.take_of_length_le (by rw [hq'.out]; exact Nat.le_refl _)] at hr
      exact hr

end Go.Proofs.Ytenfhmpjhbpkpaa
