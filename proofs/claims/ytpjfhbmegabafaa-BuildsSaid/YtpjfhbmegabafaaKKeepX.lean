/- Texts that a statement is handed: a []string.
   Lists of texts compared (folder almonrylaw0).
   Lists of texts that are lent with marked room behind them (folder almonrylaw0).
   Layer 2, as plain functions: what a tag's digest is made of. No function of the program is named here.
   Loads and stores of whole rows in a walk inside a fence (a range over a function). No function of the program is named here.
   What a body of a range over a function leaves alone, told by its own blocks: the iterator may have blocks of its own. No function of the program is named here. -/
import Derived.Test.YtpjfhbmegabafaaRows
import Derived.Test.YtpjfhbmegabafaaKApFr
import Derived.ChangeArms
import Derived.OpenShut
import Derived.DataReads
import Derived.Deep.Slices
import Derived.ProofKit
import Derived.ChangeOld
import Derived.SizedLaws
import Derived.Deep.Quiet
import Derived.Test.YtpjfhbmegabafaaKShaFin
import Derived.Deep.MidRow
import Derived.OwnWalkIn
import Derived.RangeFuncNested
import Derived.RangeFuncBound
import Derived.RangeFuncCalls
import Derived.RangeFuncLeaves
import Derived.Shelf.Abstract
import Derived.Shelf.RegionOpen
import Derived.WalkKit
import Derived.TacticsInMore
import Derived.LoopNIn
import Derived.LoopIn
namespace Go.Proofs.Ytpjfhbmegabafaa
open Go.RowKit

/-- The cells of a list of texts. -/
def strs (xs : List ByteArray) : List Value := xs.map Value.string

theorem strs_length (xs : List ByteArray) : (strs xs).length = xs.length := by simp [strs]
theorem strs_append (xs ys : List ByteArray) : strs (xs ++ ys) = strs xs ++ strs ys := by simp [strs]
theorem strs_one (xs : List ByteArray) : ∀ u ∈ strs xs, u.oneCell' = true := by
  intro u hu
  unfold strs at hu
  obtain ⟨x, _, rfl⟩ := List.mem_map.1 hu
  rfl

/-- The slice at A reads as these texts. -/
def Texts (w : World) (B : Nat) (A : Option Addr) (n : Nat) (xs : List ByteArray) : Prop := At w B 1 A n (strs xs)

section
variable {w w' : World} {B B' n : Nat} {A : Option Addr} {xs : List ByteArray}

theorem Texts.len (h : Texts w B A n xs) : xs.length = n := by
  have h' := At.len h
  rw [strs_length] at h'
  omega

theorem Texts.below (h : Texts w B A n xs) (hb : Below B w w') : Texts w' B A n xs := At.below h hb
theorem Texts.more (h : Texts w B A n xs) (hB : B ≤ B') : Texts w B' A n xs := At.more h hB
theorem Texts.drewN (h : Texts w B A n xs) (k : Nat) : Texts (w.drewN k) B A n xs := h
theorem Texts.drew (h : Texts w B A n xs) : Texts w.drew B A n xs := h
theorem Texts.alloc (h : Texts w B A n xs) (hB : B ≤ w.heap.size) (o : Obj) : Texts (w.alloc o) B A n xs := At.alloc h hB o

theorem Texts.get (h : Texts w B A n xs) {k : Nat} (hk : k < n) : ∃ p, A = some p ∧ p.block < B ∧ ∃ x, x ∈ xs ∧ xs[k]? = some x ∧ w.cell? (p.add k) = some (.string x) := by
  obtain ⟨p, v, hA, hB, hv, hc⟩ := At.get h hk
  have hl := h.len
  have hk' : k < xs.length := by omega
  refine ⟨p, hA, hB, xs[k], List.getElem_mem _, List.getElem?_eq_getElem hk', ?_⟩
  rw [hc, ← hv]
  simp [strs, List.getElem?_eq_getElem hk']

theorem Texts.front {ys : List ByteArray} {m : Nat} (h : Texts w B A (n + m) (xs ++ ys)) (hl : xs.length = n) : Texts w B A n xs := by
  subst hl
  obtain ⟨hlen, h0 | ⟨p, hp, hB, hc⟩⟩ := h
  · have e : xs = [] := List.eq_nil_of_length_eq_zero (by omega)
    subst e
    exact ⟨rfl, .inl rfl⟩
  · refine ⟨by rw [strs_length, Nat.mul_one], .inr ⟨p, hp, hB, fun j hj => ?_⟩⟩
    have hj2 : j < (strs (xs ++ ys)).length := by
      rw [strs_length] at hj ⊢
      simp
      omega
    rw [hc j hj2]
    simp [strs_append, List.getElem_append_left hj]
end

section
variable {H : Type} {enc : TypeId × Value → H} {w : World} {base : Nat} {spare : Nat → Bool} {held : Bool}
open Go.ChangeShapes Go.WideShapes Go.Deep

end

end Go.Proofs.Ytpjfhbmegabafaa
namespace Go.Proofs.Ytpjfhbmegabafaa
open Go.RowKit

theorem At.new (w : World) (vs : List Value) (n : Nat) (e : TypeId) (cs : Array Value) (h : cs.toList = vs) (hn : vs.length = n) :
    At (w.alloc (.cells cs e)) (w.heap.size + 1) 1 (some ⟨w.heap.size, 0, none⟩) n vs := by
  subst hn h
  refine ⟨by simp, .inr ⟨_, rfl, Nat.lt_succ_self _, fun j hj => ?_⟩⟩
  have e0 : (⟨w.heap.size, 0, none⟩ : Addr).add j = ⟨w.heap.size, j, none⟩ := by
    unfold Addr.add
    by_cases h0 : j = 0 <;> simp [h0]
  have hj' : j < cs.size := by simpa using hj
  rw [e0, cell_of_row _ w.heap.size j cs e (0, 0) (heap_alloc_new w _), Array.getElem?_eq_getElem hj']
  simp

set_option maxHeartbeats 400000 in
theorem SameTexts_any (A : Option Addr) (n c : Nat) (xs : List ByteArray) (A' : Option Addr) (c' : Nat) (B : Nat) (w : World) (h : Texts w B A n xs) (hn : n ≤ 100000000000000) (h' : Texts w B A' n xs) :
    Calls Try.prog 27 #[.slice A n c, .slice A' n c'] w fun e w' => e = .returned (.bool true) ∧ ∃ m, w' = w.drewN m := by
  go_enter Try.func27, Try.ntmps27
  go_wp2
  go_loopw [5] (fun i wr => ∃ k m : Nat, k ≤ n ∧ i = .int .i64 k ∧ wr = w.drewN m) (fun i _ => n - (intOf i).toNat)
  case atStart => exact ⟨0, 0, Nat.zero_le _, rfl, rfl⟩
  case round =>
    obtain ⟨k, m, hk, rfl, rfl⟩ := hrel
    by_cases hlt : k < n
    · obtain ⟨p, rfl, hB, x, -, hx, hc⟩ := h.get hlt
      obtain ⟨p', rfl, hB', x', -, hx', hc'⟩ := h'.get hlt
      obtain rfl : x = x' := Option.some.inj (hx.symm.trans hx')
      have hkn : (k : Int) < (n : Int) := by omega
      clear hx hx'
      go_wp2
      go_quiet (fail)
      go_wp2
      go_roundw
      case rel => exact ⟨k + 1, _, by omega, by go_num, rfl⟩
      case measure => simp [intOf]; omega
    · obtain rfl : k = n := by omega
      go_wp2
      go_ret
      exact ⟨rfl, m, rfl⟩

end Go.Proofs.Ytpjfhbmegabafaa
namespace Go.Proofs.Ytpjfhbmegabafaa
open Go.RowKit

end Go.Proofs.Ytpjfhbmegabafaa
namespace Go.Proofs.Ytpjfhbmegabafaa
open Go.RowKit

/-- The sizes of texts, in all. -/
def totS : List ByteArray → Nat
  | [] => 0
  | x :: xs => x.size + totS xs

theorem totS_append (xs ys : List ByteArray) : totS (xs ++ ys) = totS xs + totS ys := by
  induction xs with
  | nil => simp [totS]
  | cons x xs ih => simp [totS, ih, Nat.add_assoc]

theorem totS_take (xs : List ByteArray) (k : Nat) : totS (xs.take k) ≤ totS xs := by
  conv => rhs; rw [← List.take_append_drop k xs]
  rw [totS_append]
  omega

theorem take_next {xs : List ByteArray} {k : Nat} {x : ByteArray} (h : xs[k]? = some x) : xs.take (k + 1) = xs.take k ++ [x] := by
  obtain ⟨hk, he⟩ := List.getElem?_eq_some_iff.1 h
  rw [List.take_succ_eq_append_getElem hk, he]

theorem totS_next {xs : List ByteArray} {k : Nat} {x : ByteArray} (h : xs[k]? = some x) : totS (xs.take (k + 1)) = totS (xs.take k) + x.size := by
  rw [take_next h, totS_append]
  simp [totS]

theorem totS_size {xs : List ByteArray} {x : ByteArray} (h : x ∈ xs) : x.size ≤ totS xs := by
  induction xs with
  | nil => cases h
  | cons y ys ih =>
    simp only [totS]
    rcases List.mem_cons.1 h with rfl | h
    · omega
    · have := ih h
      omega

/-- What each part puts down: its length's four bytes, itself. -/
def partL (x : ByteArray) : List UInt8 := beL 4 x.size ++ x.data.toList

/-- What is digested. -/
def tagL (t : Nat) (xs : List ByteArray) : List UInt8 := UInt8.ofNat t :: xs.flatMap partL

theorem tagL_next {t : Nat} {xs : List ByteArray} {k : Nat} {x : ByteArray} (h : xs[k]? = some x) : tagL t (xs.take (k + 1)) = tagL t (xs.take k) ++ beL 4 x.size ++ x.data.toList := by
  unfold tagL
  rw [take_next h, List.flatMap_append]
  simp [partL]

theorem tagL_length (t : Nat) (xs : List ByteArray) : (tagL t xs).length = 1 + 4 * xs.length + totS xs := by
  unfold tagL
  rw [List.length_cons]
  have : (xs.flatMap partL).length = 4 * xs.length + totS xs := by
    induction xs with
    | nil => rfl
    | cons x xs ih =>
      rw [List.flatMap_cons, List.length_append, ih]
      simp only [partL, List.length_append, beL_length, totS, List.length_cons]
      have := data_length x
      omega
  omega

/-- May they be digested: one of the five tags, no more than may be? -/
def tagMay (t : Int) (xs : List ByteArray) : Bool := decide (0 ≤ t ∧ t ≤ 4 ∧ totS xs ≤ 65536)

/-- What tag.Sum answers: the digest's value, the error. -/
def tagAns (t : Int) (xs : List ByteArray) : Value × Int := if tagMay t xs = true then (hashV (tagL t.toNat xs), 0) else (.agg z32, 200)

end Go.Proofs.Ytpjfhbmegabafaa
namespace Go.Proofs.Ytpjfhbmegabafaa
open Go.RowKit

section
variable {F : Fence} {n : Nat} {P : Program} {w : World} {ops : Array Oper} {rest : List Oper} {o : Oper} {a : Act} {Q : Exit → Act → World → Prop}

theorem at_slotIn (d : Option Nat) {op : Op} {ty : TypeId} {pos : String} {after : Array Edge} {gd : Option (Nat × Bool)} (h : wpListIn F n P ops Q (⟨d, op, ty, pos, after, gd⟩ :: rest) a w) : wpListIn F n P ops Q (⟨d, op, ty, pos, after, gd⟩ :: rest) a w := h

theorem wpListIn_run (hg : o.guard = none) (hd : ∀ c, o.op ≠ .defer c) (ha : o.about P w a.eval = none) (v : Value) (w' : World) (hrun : (execOp a.eval o).run P w = .ok (.value v) w') (h : wpListIn F n P ops Q rest (a.put o.dst v) w') : wpListIn F n P ops Q (o :: rest) a w :=
  wpListIn_plain hg fun K hK => by
    unfold Oper.wpIn
    refine ⟨fun f hf => (by rw [ha] at hf; cases hf), ?_⟩
    rw [Oper.semAt_plain F _ _ hd, hrun]
    exact hK _ _ h

theorem wpListIn_load_mid (hg : o.guard = none) (ty : TypeId) (x : Operand) (ho : o.op = .load ty x)
    (b f : Nat) (hx : a.eval x = .pointer (some ⟨b, f, none⟩)) (cs : List Value) (d : TypeDesc) (hc : w.rangeAt b f cs)
    (hu : P.underlying ty = some d) (hd : d.isRow = true) (hi : (P.info? ty).map (·.size) = some cs.length)
    (h : wpListIn F n P ops Q rest (a.put o.dst (.agg cs.toArray)) w) : wpListIn F n P ops Q (o :: rest) a w := by
  refine wpListIn_run hg (fun c e => by rw [ho] at e; cases e) (by simp [Oper.about, ho]) _ _ ?_ h
  unfold execOp
  simp only [ho, hx, Instr.loadAt, Instr.sureAddr, Sem.run_bind, Sem.run_pure, Result.andThen_ok, run_loadVar_mid w b f ty cs d hc hu hd hi]

theorem wpListIn_store_mid (hg : o.guard = none) (ty : TypeId) (x y : Operand) (ho : o.op = .store ty x y)
    (b f : Nat) (cells : Array Value) (hx : a.eval x = .pointer (some ⟨b, f, none⟩)) (hy : a.eval y = .agg cells)
    (ht : w.there b f cells.size) (hi : (P.info? ty).map (·.size) = some cells.size) (h1 : cells.all (·.oneCell') = true)
    (h : wpListIn F n P ops Q rest (a.put o.dst undef) (w.setCells b f cells.toList)) : wpListIn F n P ops Q (o :: rest) a w :=
  wpListIn_plain hg fun K hK => by
    unfold Oper.wpIn
    refine ⟨fun g hf => by simp [Oper.about, ho] at hf, ?_⟩
    rw [Oper.semAt_plain F _ _ (fun c e => by rw [ho] at e; cases e)]
    unfold execOp
    simp only [ho, hx, hy, Instr.storeAt, Instr.sureAddr, Sem.run_bind, Sem.run_pure, Result.andThen_ok, run_storeVar_mid w b f ty cells ht hi h1]
    exact hK _ _ h
end

/-- All blocks below n but one lie as they lay. -/
def KeepB (n a : Nat) (W W' : World) : Prop := W.heap.size ≤ W'.heap.size ∧ ∀ k, k < n → k ≠ a → W'.heap[k]? = W.heap[k]?

section
variable {n a : Nat} {A B C : World}
theorem KeepB.refl (n a : Nat) (W : World) : KeepB n a W W := ⟨Nat.le_refl _, fun _ _ _ => rfl⟩
theorem KeepB.trans (h : KeepB n a A B) (k : KeepB n a B C) : KeepB n a A C := ⟨Nat.le_trans h.1 k.1, fun i hi ha => (k.2 i hi ha).trans (h.2 i hi ha)⟩
theorem KeepB.cell (h : KeepB n a A B) {p : Addr} (hp : p.block < n) (ha : p.block ≠ a) : B.cell? p = A.cell? p := World.cell?_of_block (w := A) (h.2 p.block hp ha)
theorem KeepB.below (hn : n ≤ A.heap.size) (h : Below A.heap.size A B) : KeepB n a A B := ⟨h.size, fun k hk _ => h.block k (by omega)⟩
theorem KeepB.grown (hn : n ≤ A.heap.size) (h : A.grownBy B (some a)) : KeepB n a A B := ⟨h.size, fun k hk ha => h.block k (by omega) (fun e => ha (Option.some.inj e))⟩
theorem KeepB.put (hn : n ≤ C.heap.size) (W : World) (l : Nat) (o o' : Obj) (hl : C.heap.size ≤ l) (_ : W.heap[l]? = some o) (_ : o.isCells = false) (_ : o.isWalk = false) : KeepB n a W (W.putObj l o') :=
  ⟨by simp, fun k hk _ => World.putObj_heap_other (by omega)⟩
theorem KeepB.range (h : KeepB n a A B) {b o : Nat} {cs : List Value} (hb : b < n) (ha : b ≠ a) (hc : A.rangeAt b o cs) : B.rangeAt b o cs := fun j v hv => (h.cell (p := ⟨b, o + j, none⟩) hb ha).trans (hc j v hv)
end

theorem holds_kept {W W' : World} {row : Option Nat} {g : Nat} {t : TypeId} {cs : List Value} (h : Holds W g t cs) (hg : W.grownBy W' row) (hrow : ∀ r, row = some r → ∃ o : Obj, W.heap[r]? = some o ∧ o.isCells = false) : Holds W' g t cs := by
  refine h.grown hg ?_
  rintro rfl
  obtain ⟨o, ho, hc⟩ := hrow g rfl
  unfold Holds at h
  rw [h] at ho
  obtain rfl := Option.some.inj ho
  cases hc

end Go.Proofs.Ytpjfhbmegabafaa
namespace Go.Proofs.Ytpjfhbmegabafaa
open Go.RowKit

/-- What a body of a range over a function leaves alone: every block of cells but its own (X). -/
def KeepX (X : Nat → Prop) (W W' : World) : Prop := W.heap.size ≤ W'.heap.size ∧ ∀ k o, W.heap[k]? = some o → o.isCells = true → ¬ X k → W'.heap[k]? = some o

section
variable {X : Nat → Prop} {A B C : World}
theorem KeepX.refl (X : Nat → Prop) (W : World) : KeepX X W W := ⟨Nat.le_refl _, fun _ _ h _ _ => h⟩
theorem KeepX.trans (h : KeepX X A B) (k : KeepX X B C) : KeepX X A C := ⟨Nat.le_trans h.1 k.1, fun i o hi ho hx => k.2 i o (h.2 i o hi ho hx) ho hx⟩
theorem KeepX.put (W : World) (l : Nat) (o o' : Obj) (hl : W.heap[l]? = some o) (ho : o.isCells = false) : KeepX X W (W.putObj l o') := by
  refine ⟨by simp, fun k p hk hp _ => ?_⟩
  by_cases h : k = l
  · subst h
    rw [hl] at hk
    obtain rfl := Option.some.inj hk
    rw [ho] at hp
    cases hp
  · rw [World.putObj_heap_other (by omega)]
    exact hk
theorem KeepX.below (h : Below A.heap.size A B) : KeepX X A B := ⟨h.size, fun k _ hk _ _ => (h.block k (Array.getElem?_eq_some_iff.1 hk).1).trans hk⟩
theorem KeepX.grown {a : Nat} (ha : X a) (h : A.grownBy B (some a)) : KeepX X A B := ⟨h.size, fun k o hk _ hx => (h.block k (Array.getElem?_eq_some_iff.1 hk).1 (fun e => hx (by have := Option.some.inj e; rw [this]; exact ha))).trans hk⟩
theorem KeepX.more {Y : Nat → Prop} (h : KeepX X A B) (hXY : ∀ k, X k → Y k) : KeepX Y A B := ⟨h.1, fun k o hk ho hy => h.2 k o hk ho (fun hx => hy (hXY k hx))⟩
theorem KeepX.block {g : Nat} {cs : Array Value} {t : TypeId} {fz : Nat × Nat} (h : KeepX X A B) (hg : A.heap[g]? = some (.cells cs t fz)) (hx : ¬ X g) : B.heap[g]? = some (.cells cs t fz) := h.2 g _ hg rfl hx
theorem KeepX.holds {g : Nat} {t : TypeId} {cs : List Value} (h : KeepX X A B) (hh : Holds A g t cs) (hx : ¬ X g) : Holds B g t cs := h.block hh hx
theorem KeepX.cell {p : Addr} {v : Value} (h : KeepX X A B) (hp : A.cell? p = some v) (hx : ¬ X p.block) : B.cell? p = some v := by
  cases hb : A.heap[p.block]? with
  | none => simp [World.cell?, hb] at hp
  | some o =>
    cases o with
    | cells cs t fz => rw [← hp]; exact World.cell?_of_block ((h.block hb hx).trans hb.symm)
    | _ => simp [World.cell?, hb] at hp
theorem KeepX.row {base n size : Nat} {e : TypeId} {v : Value} {xs : List Value} (h : KeepX X A B) (hr : A.ownsRow base e size v n xs) (hx : ∀ g, v.ownBlock = some g → ¬ X g) : B.ownsRow base e size v n xs := by
  obtain ⟨hl, h0 | ⟨g, cap, cur, rfl, hg, hb, h1, h2, h3, h4⟩⟩ := hr
  · exact ⟨hl, .inl h0⟩
  · exact ⟨hl, .inr ⟨g, cap, cur, rfl, hg, h.block hb (hx g rfl), h1, h2, h3, h4⟩⟩
end

end Go.Proofs.Ytpjfhbmegabafaa
