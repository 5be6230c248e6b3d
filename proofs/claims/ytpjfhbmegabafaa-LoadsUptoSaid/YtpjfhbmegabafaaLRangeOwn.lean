/- Layer 2, as plain functions: what a tag's digest is made of. No function of the program is named here.
   Loads and stores of whole rows in a walk inside a fence (a range over a function). No function of the program is named here.
   What a body of a range over a function leaves alone, told by its own blocks: the iterator may have blocks of its own. No function of the program is named here.
   A range over an iterator that writes cells of its own (caught and laid), while the body keeps growing rows of its own. No function of the program is named here. -/
import Derived.Test.YtpjfhbmegabafaaLShaFin
import Derived.Test.YtpjfhbmegabafaaLLendT
import Derived.Deep.MidRow
import Derived.OwnWalkIn
import Derived.RangeFuncNested
import Derived.RangeFuncBound
import Derived.RangeFuncCalls
import Derived.RangeFuncLeaves
import Derived.Shelf.Abstract
import Derived.Shelf.RegionOpen
import Derived.WalkKit
import Derived.TacticsInMore
import Derived.LoopNIn
import Derived.LoopIn
namespace Go.Proofs.Ytpjfhbmegabafaa
open Go.RowKit

/-- The sizes of texts, in all. -/
def totS : List ByteArray → Nat
  | [] => 0
  | x :: xs => x.size + totS xs

theorem totS_append (xs ys : List ByteArray) : totS (xs ++ ys) = totS xs + totS ys := by
  induction xs with
  | nil => simp [totS]
  | cons x xs ih => simp [totS, ih, Nat.add_assoc]

theorem totS_take (xs : List ByteArray) (k : Nat) : totS (xs.take k) ≤ totS xs := by
  conv => rhs; rw [← List.take_append_drop k xs]
  rw [totS_append]
  omega

theorem take_next {xs : List ByteArray} {k : Nat} {x : ByteArray} (h : xs[k]? = some x) : xs.take (k + 1) = xs.take k ++ [x] := by
  obtain ⟨hk, he⟩ := List.getElem?_eq_some_iff.1 h
  rw [List.take_succ_eq_append_getElem hk, he]

theorem totS_next {xs : List ByteArray} {k : Nat} {x : ByteArray} (h : xs[k]? = some x) : totS (xs.take (k + 1)) = totS (xs.take k) + x.size := by
  rw [take_next h, totS_append]
  simp [totS]

theorem totS_size {xs : List ByteArray} {x : ByteArray} (h : x ∈ xs) : x.size ≤ totS xs := by
  induction xs with
  | nil => cases h
  | cons y ys ih =>
    simp only [totS]
    rcases List.mem_cons.1 h with rfl | h
    · omega
    · have := ih h
      omega

/-- The bytes of a text. -/
def bytesOf (x : ByteArray) : List UInt8 := x.data.toList

/-- What each part puts down: its length's four bytes, itself. -/
def partL (x : ByteArray) : List UInt8 := beL 4 x.size ++ x.data.toList

/-- What is digested. -/
def tagL (t : Nat) (xs : List ByteArray) : List UInt8 := UInt8.ofNat t :: xs.flatMap partL

theorem tagL_next {t : Nat} {xs : List ByteArray} {k : Nat} {x : ByteArray} (h : xs[k]? = some x) : tagL t (xs.take (k + 1)) = tagL t (xs.take k) ++ beL 4 x.size ++ x.data.toList := by
  unfold tagL
  rw [take_next h, List.flatMap_append]
  simp [partL]

theorem tagL_length (t : Nat) (xs : List ByteArray) : (tagL t xs).length = 1 + 4 * xs.length + totS xs := by
  unfold tagL
  rw [List.length_cons]
  have : (xs.flatMap partL).length = 4 * xs.length + totS xs := by
    induction xs with
    | nil => rfl
    | cons x xs ih =>
      rw [List.flatMap_cons, List.length_append, ih]
      simp only [partL, List.length_append, beL_length, totS, List.length_cons]
      have := data_length x
      omega
  omega

/-- May they be digested: one of the five tags, no more than may be? -/
def tagMay (t : Int) (xs : List ByteArray) : Bool := decide (0 ≤ t ∧ t ≤ 4 ∧ totS xs ≤ 65536)

/-- What tag.Sum answers: the digest's value, the error. -/
def tagAns (t : Int) (xs : List ByteArray) : Value × Int := if tagMay t xs = true then (hashV (tagL t.toNat xs), 0) else (.agg z32, 200)

end Go.Proofs.Ytpjfhbmegabafaa
namespace Go.Proofs.Ytpjfhbmegabafaa
open Go.RowKit

section
variable {F : Fence} {n : Nat} {P : Program} {w : World} {ops : Array Oper} {rest : List Oper} {o : Oper} {a : Act} {Q : Exit → Act → World → Prop}

theorem at_slotIn (d : Option Nat) {op : Op} {ty : TypeId} {pos : String} {after : Array Edge} {gd : Option (Nat × Bool)} (h : wpListIn F n P ops Q (⟨d, op, ty, pos, after, gd⟩ :: rest) a w) : wpListIn F n P ops Q (⟨d, op, ty, pos, after, gd⟩ :: rest) a w := h

theorem wpListIn_run (hg : o.guard = none) (hd : ∀ c, o.op ≠ .defer c) (ha : o.about P w a.eval = none) (v : Value) (w' : World) (hrun : (execOp a.eval o).run P w = .ok (.value v) w') (h : wpListIn F n P ops Q rest (a.put o.dst v) w') : wpListIn F n P ops Q (o :: rest) a w :=
  wpListIn_plain hg fun K hK => by
    unfold Oper.wpIn
    refine ⟨fun f hf => (by rw [ha] at hf; cases hf), ?_⟩
    rw [Oper.semAt_plain F _ _ hd, hrun]
    exact hK _ _ h

theorem wpListIn_load_mid (hg : o.guard = none) (ty : TypeId) (x : Operand) (ho : o.op = .load ty x)
    (b f : Nat) (hx : a.eval x = .pointer (some ⟨b, f, none⟩)) (cs : List Value) (d : TypeDesc) (hc : w.rangeAt b f cs)
    (hu : P.underlying ty = some d) (hd : d.isRow = true) (hi : (P.info? ty).map (·.size) = some cs.length)
    (h : wpListIn F n P ops Q rest (a.put o.dst (.agg cs.toArray)) w) : wpListIn F n P ops Q (o :: rest) a w := by
  refine wpListIn_run hg (fun c e => by rw [ho] at e; cases e) (by simp [Oper.about, ho]) _ _ ?_ h
  unfold execOp
  simp only [ho, hx, Instr.loadAt, Instr.sureAddr, Sem.run_bind, Sem.run_pure, Result.andThen_ok, run_loadVar_mid w b f ty cs d hc hu hd hi]

theorem wpListIn_store_mid (hg : o.guard = none) (ty : TypeId) (x y : Operand) (ho : o.op = .store ty x y)
    (b f : Nat) (cells : Array Value) (hx : a.eval x = .pointer (some ⟨b, f, none⟩)) (hy : a.eval y = .agg cells)
    (ht : w.there b f cells.size) (hi : (P.info? ty).map (·.size) = some cells.size) (h1 : cells.all (·.oneCell') = true)
    (h : wpListIn F n P ops Q rest (a.put o.dst undef) (w.setCells b f cells.toList)) : wpListIn F n P ops Q (o :: rest) a w :=
  wpListIn_plain hg fun K hK => by
    unfold Oper.wpIn
    refine ⟨fun g hf => by simp [Oper.about, ho] at hf, ?_⟩
    rw [Oper.semAt_plain F _ _ (fun c e => by rw [ho] at e; cases e)]
    unfold execOp
    simp only [ho, hx, hy, Instr.storeAt, Instr.sureAddr, Sem.run_bind, Sem.run_pure, Result.andThen_ok, run_storeVar_mid w b f ty cells ht hi h1]
    exact hK _ _ h
end

/-- All blocks below n but one lie as they lay. -/
def KeepB (n a : Nat) (W W' : World) : Prop := W.heap.size ≤ W'.heap.size ∧ ∀ k, k < n → k ≠ a → W'.heap[k]? = W.heap[k]?

section
variable {n a : Nat} {A B C : World}
theorem KeepB.refl (n a : Nat) (W : World) : KeepB n a W W := ⟨Nat.le_refl _, fun _ _ _ => rfl⟩
theorem KeepB.trans (h : KeepB n a A B) (k : KeepB n a B C) : KeepB n a A C := ⟨Nat.le_trans h.1 k.1, fun i hi ha => (k.2 i hi ha).trans (h.2 i hi ha)⟩
theorem KeepB.cell (h : KeepB n a A B) {p : Addr} (hp : p.block < n) (ha : p.block ≠ a) : B.cell? p = A.cell? p := World.cell?_of_block (w := A) (h.2 p.block hp ha)
theorem KeepB.below (hn : n ≤ A.heap.size) (h : Below A.heap.size A B) : KeepB n a A B := ⟨h.size, fun k hk _ => h.block k (by omega)⟩
theorem KeepB.grown (hn : n ≤ A.heap.size) (h : A.grownBy B (some a)) : KeepB n a A B := ⟨h.size, fun k hk ha => h.block k (by omega) (fun e => ha (Option.some.inj e))⟩
theorem KeepB.put (hn : n ≤ C.heap.size) (W : World) (l : Nat) (o o' : Obj) (hl : C.heap.size ≤ l) (_ : W.heap[l]? = some o) (_ : o.isCells = false) (_ : o.isWalk = false) : KeepB n a W (W.putObj l o') :=
  ⟨by simp, fun k hk _ => World.putObj_heap_other (by omega)⟩
theorem KeepB.range (h : KeepB n a A B) {b o : Nat} {cs : List Value} (hb : b < n) (ha : b ≠ a) (hc : A.rangeAt b o cs) : B.rangeAt b o cs := fun j v hv => (h.cell (p := ⟨b, o + j, none⟩) hb ha).trans (hc j v hv)
end

theorem holds_kept {W W' : World} {row : Option Nat} {g : Nat} {t : TypeId} {cs : List Value} (h : Holds W g t cs) (hg : W.grownBy W' row) (hrow : ∀ r, row = some r → ∃ o : Obj, W.heap[r]? = some o ∧ o.isCells = false) : Holds W' g t cs := by
  refine h.grown hg ?_
  rintro rfl
  obtain ⟨o, ho, hc⟩ := hrow g rfl
  unfold Holds at h
  rw [h] at ho
  obtain rfl := Option.some.inj ho
  cases hc

end Go.Proofs.Ytpjfhbmegabafaa
namespace Go.Proofs.Ytpjfhbmegabafaa
open Go.RowKit

/-- What a body of a range over a function leaves alone: every block of cells but its own (X). -/
def KeepX (X : Nat → Prop) (W W' : World) : Prop := W.heap.size ≤ W'.heap.size ∧ ∀ k o, W.heap[k]? = some o → o.isCells = true → ¬ X k → W'.heap[k]? = some o

section
variable {X : Nat → Prop} {A B C : World}
theorem KeepX.refl (X : Nat → Prop) (W : World) : KeepX X W W := ⟨Nat.le_refl _, fun _ _ h _ _ => h⟩
theorem KeepX.trans (h : KeepX X A B) (k : KeepX X B C) : KeepX X A C := ⟨Nat.le_trans h.1 k.1, fun i o hi ho hx => k.2 i o (h.2 i o hi ho hx) ho hx⟩
theorem KeepX.put (W : World) (l : Nat) (o o' : Obj) (hl : W.heap[l]? = some o) (ho : o.isCells = false) : KeepX X W (W.putObj l o') := by
  refine ⟨by simp, fun k p hk hp _ => ?_⟩
  by_cases h : k = l
  · subst h
    rw [hl] at hk
    obtain rfl := Option.some.inj hk
    rw [ho] at hp
    cases hp
  · rw [World.putObj_heap_other (by omega)]
    exact hk
theorem KeepX.below (h : Below A.heap.size A B) : KeepX X A B := ⟨h.size, fun k _ hk _ _ => (h.block k (Array.getElem?_eq_some_iff.1 hk).1).trans hk⟩
theorem KeepX.grown {a : Nat} (ha : X a) (h : A.grownBy B (some a)) : KeepX X A B := ⟨h.size, fun k o hk _ hx => (h.block k (Array.getElem?_eq_some_iff.1 hk).1 (fun e => hx (by have := Option.some.inj e; rw [this]; exact ha))).trans hk⟩
theorem KeepX.more {Y : Nat → Prop} (h : KeepX X A B) (hXY : ∀ k, X k → Y k) : KeepX Y A B := ⟨h.1, fun k o hk ho hy => h.2 k o hk ho (fun hx => hy (hXY k hx))⟩
theorem KeepX.block {g : Nat} {cs : Array Value} {t : TypeId} {fz : Nat × Nat} (h : KeepX X A B) (hg : A.heap[g]? = some (.cells cs t fz)) (hx : ¬ X g) : B.heap[g]? = some (.cells cs t fz) := h.2 g _ hg rfl hx
theorem KeepX.holds {g : Nat} {t : TypeId} {cs : List Value} (h : KeepX X A B) (hh : Holds A g t cs) (hx : ¬ X g) : Holds B g t cs := h.block hh hx
theorem KeepX.cell {p : Addr} {v : Value} (h : KeepX X A B) (hp : A.cell? p = some v) (hx : ¬ X p.block) : B.cell? p = some v := by
  cases hb : A.heap[p.block]? with
  | none => simp [World.cell?, hb] at hp
  | some o =>
    cases o with
    | cells cs t fz => rw [← hp]; exact World.cell?_of_block ((h.block hb hx).trans hb.symm)
    | _ => simp [World.cell?, hb] at hp
theorem KeepX.row {base n size : Nat} {e : TypeId} {v : Value} {xs : List Value} (h : KeepX X A B) (hr : A.ownsRow base e size v n xs) (hx : ∀ g, v.ownBlock = some g → ¬ X g) : B.ownsRow base e size v n xs := by
  obtain ⟨hl, h0 | ⟨g, cap, cur, rfl, hg, hb, h1, h2, h3, h4⟩⟩ := hr
  · exact ⟨hl, .inl h0⟩
  · exact ⟨hl, .inr ⟨g, cap, cur, rfl, hg, h.block hb (hx g rfl), h1, h2, h3, h4⟩⟩
end

end Go.Proofs.Ytpjfhbmegabafaa
namespace Go.Proofs.Ytpjfhbmegabafaa
open Go.RowKit

/-- The body's own blocks, behind a round: those that were, and new ones. -/
def FreshP (W : World) (o o' : Nat → Prop) : Prop := ∀ k, o' k → o k ∨ W.heap.size ≤ k
/-- An iterator that may write cells that it lays, and those that it has caught (Y); the body's own rows lie in the blocks o. -/
def SeqOwn {α : Type} (F : Fence) (n : Nat) (P : Program) (g : Nat) (lb : Array Value) (encs : α → Array Value) (Y : Nat → Prop) (Kp : (Nat → Prop) → World → World → Prop) (S : List α → Prop) (N : Nat) (w : World) : Prop :=
  ∀ (l : Nat) (J : List α → (Nat → Prop) → World → Prop) (W : World), Below w.heap.size w W →
    (∀ s o A B row, J s o A → A.grownBy B row → (∀ r, row = some r → (W.heap.size ≤ r ∧ ¬ o r) ∨ Y r) → J s o B) →
    (∀ s o A k, J s o A → o k → W.heap.size ≤ k) →
    (∀ pre x o W1, J pre o W1 → pre.length < N → YieldAt F (n - 1) P l (encs x) W1 fun e W' => e = .returned (.bool true) ∧ ∃ o', FreshP W1 o o' ∧ J (pre ++ [x]) o' W' ∧ Kp o W1 W') →
    J [] (fun _ => False) W → CallsIn F n P g (#[.func (.yield l) #[] #[]] ++ lb) W fun e W' => (∃ v, e = .returned v) ∧ ∃ xs o, S xs ∧ J xs o W'

section
variable {F : Fence} {n : Nat} {P : Program}

/-- Whatever is no cells, lies at or beyond B and is not the body's own lies as it lay. -/
def KeepsO (B : Nat) (o : Nat → Prop) (W W' : World) : Prop := W.heap.size ≤ W'.heap.size ∧ ∀ k ob, B ≤ k → ¬ o k → W.heap[k]? = some ob → ob.isCells = false → W'.heap[k]? = some ob
theorem KeepsFrom.o {B : Nat} {W W' : World} (h : KeepsFrom B W W') (o : Nat → Prop) : KeepsO B o W W' := ⟨h.size, fun k ob hB _ hk hc => h.same k ob hB hk hc⟩

/-- A range over such an iterator, outside every other: a body that never leaves. -/
theorem wpIn_range_own {α : Type} {g : Operand} {ps : Array Tmp} {assign body : Code} {Q : Exit → Act → World → Prop} {a : Act} {w : World}
    (hro : F.round = none) (h1 : 1 ≤ n) {gf : Nat} {lb : Array Value} (hg : a.eval g = .func (.func gf) #[] lb) (hFg : F.fn gf) (eg : ∀ args w, (callFunc gf args).run P w = .ok (.enter gf args) w)
    {encs : α → Array Value} {Y : Nat → Prop} {Kp : (Nat → Prop) → World → World → Prop} {S : List α → Prop} {N : Nat} {w0 : World} (hseq : SeqOwn F (n - 1) P gf lb encs Y Kp S N w0) (hb0 : Below w0.heap.size w0 w) (hps : ∀ x, (encs x).size = ps.size) (hY : ∀ r, Y r → r < w.heap.size)
    (hKt : ∀ {o : Nat → Prop} {A B C : World}, Kp o A B → Kp o B C → Kp o A C) (hKb : ∀ (q : Nat → Prop) (W : World) (l : Nat) (o o' : Obj), w.heap.size ≤ l → W.heap[l]? = some o → o.isCells = false → Kp q W (W.putObj l o'))
    (I : List α → (Nat → Prop) → World → Prop) (hI : ∀ s o A B row, I s o A → A.grownBy B row → (∀ r, row = some r → (w.heap.size ≤ r ∧ ¬ o r) ∨ Y r) → I s o B) (hIo : ∀ s o A k, I s o A → o k → w.heap.size + 2 ≤ k) (h0 : I [] (fun _ => False) w)
    (Ax : α → Act → World → Prop) (hAx : ∀ x a' A B row, Ax x a' A → A.grownBy B row → (∀ r, row = some r → w.heap.size ≤ r ∧ ∃ o : Obj, A.heap[r]? = some o ∧ o.isCells = false) → Ax x a' B)
    (hassign : ∀ (l : Nat) (pre : List α) (x : α) (o : Nat → Prop) (W : World) (K : Act → World → Prop), w.heap.size + 2 ≤ W.heap.size → I pre o W → (∀ a' W', KeepsFrom w.heap.size W W' → Kp o W W' → I pre o W' → Ax x a' W' → K a' W') →
      assign.wpIn (F.inRound l) (n - 1 - 1) P (Exit.then K (fun _ _ _ => False)) { tmps := (ps.zip (encs x)).foldl (fun t (p, v) => t.setIfInBounds p v) a.tmps, defers := [] } W)
    (hbody : ∀ (l : Nat) (pre : List α) (x : α) (o : Nat → Prop) (a' : Act) (W : World), w.heap.size ≤ l → w.heap.size + 2 ≤ W.heap.size → (∃ r, W.heap[l]? = some (.loop r)) → I pre o W → Ax x a' W → pre.length < N →
      body.wpIn (F.inRound l) (n - 1 - 1) P (fun e _ W' => e = .normal ∧ KeepsO w.heap.size o W W' ∧ Kp o W W' ∧ ∃ o', FreshP W o o' ∧ I (pre ++ [x]) o' W') a' W)
    (hdone : ∀ (D : Nat) (xs : List α) (o : Nat → Prop) (W : World), w.heap.size ≤ D → S xs → I xs o W → W.heap[D]? = some (.deferred (some [])) → Q .normal { a with defers := { target := .collected D, args := #[] } :: a.defers } W) :
    (Code.rangeFunc g ps assign body).wpIn F n P Q a w := by
  refine wpIn_rangeFunc ?_
  intro fn hfn
  rw [hro]
  -- the loop's record, ready or busy or done, and the place of what is deferred
  obtain ⟨rec, hrec⟩ : ∃ rec : LoopState → Loop, rec = fun st => { state := st, pending := none, fn, tmps := a.tmps, params := ps, assign, body, defers := w.heap.size } := ⟨_, rfl⟩
  obtain ⟨W1, hW1⟩ : ∃ W1, (w.alloc (.deferred (some []))).alloc (.loop (rec .ready)) = W1 := ⟨_, rfl⟩
  have hs1 : W1.heap.size = w.heap.size + 2 := by rw [← hW1]; simp
  have hL1 : W1.heap[w.heap.size + 1]? = some (.loop (rec .ready)) := by
    have h := World.alloc_heap_new (w.alloc (.deferred (some []))) (.loop (rec .ready))
    rw [World.size_alloc] at h
    rw [← hW1]
    exact h
  have hD1 : W1.heap[w.heap.size]? = some (.deferred (some [])) := by
    rw [← hW1]
    exact (Below.heap_alloc _ _ _ (by simp)).trans (World.alloc_heap_new w _)
  have hbw : Below w.heap.size w W1 := by rw [← hW1]; exact ((Below.refl _ w).alloc (Nat.le_refl _) _).alloc (by simp) _
  have hput : ∀ s q W l (o o' : Obj), I s q W → w.heap.size ≤ l → l < w.heap.size + 2 → W.heap[l]? = some o → o.isCells = false → I s q (W.putObj l o') := fun s q W l o o' hs hl hl2 ho hc => hI s q W _ (some l) hs (grownBy_putObj' W l o') (fun r e => by
    cases e
    refine .inl ⟨hl, fun e => ?_⟩
    have := hIo s q W l hs e
    omega)
  have hI1 : I [] (fun _ => False) W1 := hI [] (fun _ => False) w W1 none h0 ⟨hbw.os, hbw.tape, hbw.output, hbw.size, fun k hk _ => hbw.block k hk⟩ (fun r e => by cases e)
  refine ⟨w.heap.size + 1, [{ target := .collected w.heap.size, args := #[] }], W1, { target := .fn (.func gf) lb, args := #[.func (.yield (w.heap.size + 1)) #[] #[]] }, W1, gf,
    #[.func (.yield (w.heap.size + 1)) #[] #[]] ++ lb, W1, ?_, ?_, ?_, ?_, fun _ => h1, ?_⟩
  · rw [← hW1, hrec]
    exact run_enterLoop_outer _ _ _ _ _
  · simp only [resolve, hg]
    simp [go_sem]
  · intro f' hf'
    simp [Target.leads] at hf'
    subst hf'
    exact hFg
  · simp [invoke, go_sem, eg]
  · -- a block below w1's size stays
    have stay : ∀ (k : Nat) (A B : World) (row : Option Nat) (o : Obj) (q : Nat → Prop), w.heap.size ≤ k → k < w.heap.size + 2 → A.heap[k]? = some o → A.grownBy B row → (∀ r, row = some r → (W1.heap.size ≤ r ∧ ¬ q r) ∨ Y r) → B.heap[k]? = some o := by
      intro k A B row o q hk1 hk2 hA hgr hr
      refine (hgr.block k (Array.getElem?_eq_some_iff.1 hA).1 (fun e => ?_)).trans hA
      rcases hr k e.symm with h | h
      · have := h.1
        omega
      · have := hY k h
        omega
    refine (hseq (w.heap.size + 1) (fun pre o W => I pre o W ∧ W.heap[w.heap.size + 1]? = some (.loop (rec .ready)) ∧ W.heap[w.heap.size]? = some (.deferred (some [])) ∧ w.heap.size + 2 ≤ W.heap.size) W1 (hb0.trans (hbw.mono hb0.size))
      (fun s o A B row hs hgr hr => ⟨hI s o A B row hs.1 hgr (fun r e => (hr r e).imp (fun h => ⟨by have := h.1; omega, h.2⟩) id), stay _ A B row _ o (by omega) (by omega) hs.2.1 hgr hr, stay _ A B row _ o (by omega) (by omega) hs.2.2.1 hgr hr, Nat.le_trans hs.2.2.2 hgr.size⟩) (fun s o A k hs e => by have := hIo s o A k hs.1 e; omega) ?_ ⟨hI1, hL1, hD1, Nat.le_of_eq hs1.symm⟩).mono ?_
    · -- a round
      rintro pre x o W ⟨hi, hl, hd, hz⟩ hlen
      have hy := run_yield (P := P) (args := encs x) hl (by rw [hrec]; exact hps x)
      rw [hrec] at hy
      refine ⟨fn, _, assign, body, hy, roundIn_of_wpIn hfn (hassign _ pre x o W _ hz hi ?_)⟩
      clear hy
      intro a' V hkf hkp hiV hax
      have hlV := hkf.same _ _ (Nat.le_succ _) hl rfl
      have hdV := hkf.same _ _ (Nat.le_refl _) hd rfl
      have hltV := (Array.getElem?_eq_some_iff.1 hlV).1
      refine ⟨_, run_beginRound hlV (by rw [hrec]), ?_⟩
      have hl2 : (V.putObj (w.heap.size + 1) (.loop { rec .ready with state := .busy })).heap[w.heap.size + 1]? = some (.loop { rec .ready with state := .busy }) := World.putObj_heap_same hltV
      have hd2 : (V.putObj (w.heap.size + 1) (.loop { rec .ready with state := .busy })).heap[w.heap.size]? = some (.deferred (some [])) := (World.putObj_heap_other (by omega)).trans hdV
      have hpz : ∀ (U : World) (l : Nat) (o : Obj), (U.putObj l o).heap.size = U.heap.size := fun _ _ _ => by simp
      have hzV := hkf.size
      have hp2 : Kp o V (V.putObj (w.heap.size + 1) (.loop { rec .ready with state := .busy })) := hKb _ _ _ _ _ (by omega) hlV rfl
      refine wpIn_mono (hbody _ pre x o a' _ (Nat.le_succ _) (by rw [hpz]; omega) ⟨_, hl2⟩ (hput _ _ _ _ _ _ hiV (Nat.le_succ _) (by omega) hlV rfl) (hAx x a' _ _ (some (w.heap.size + 1)) hax (grownBy_putObj' _ _ _) (fun r e => by cases e; exact ⟨Nat.le_succ _, _, hlV, rfl⟩)) hlen) ?_
      rintro e a3 W3 ⟨rfl, hk3, hp3, o', hf3, hi3⟩
      have hio := fun k (hk : o k) => hIo _ o _ k hiV hk
      have hl3 := hk3.2 _ _ (Nat.le_succ _) (fun h => by have := hio _ h; omega) hl2 rfl
      have hd3 := hk3.2 _ _ (Nat.le_refl _) (fun h => by have := hio _ h; omega) hd2 rfl
      have hlt3 := (Array.getElem?_eq_some_iff.1 hl3).1
      have hz3 := hk3.1
      rw [hpz] at hz3
      have hr := run_endRound (P := P) none hl3
      rw [hrec] at hr
      refine ⟨_, _, hr, rfl, o', ?_, ⟨hput _ _ _ _ _ _ hi3 (Nat.le_succ _) (by omega) hl3 rfl, ?_, (World.putObj_heap_other (by omega)).trans hd3, by rw [hpz]; omega⟩, hKt hkp (hKt (hKt hp2 hp3) (hKb _ _ _ _ _ (by omega) hl3 rfl))⟩
      · intro k hk
        exact (hf3 k hk).imp id (fun h => by rw [hpz] at h; omega)
      · rw [hrec]
        exact World.putObj_heap_same hlt3
    · -- behind the iterator
      rintro e W2 ⟨⟨v, rfl⟩, xs, o, hS, hi, hl, hd, hz⟩
      have hr := run_endLoop (P := P) hl (by rw [hrec]; simp)
      rw [hrec] at hr
      exact ⟨none, _, hr, hdone _ xs o _ (Nat.le_refl _) hS (hput _ _ _ _ _ _ hi (Nat.le_succ _) (by omega) hl rfl) ((World.putObj_heap_other (by omega)).trans hd)⟩
end

end Go.Proofs.Ytpjfhbmegabafaa
